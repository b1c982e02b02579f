package tests

import (
	"fmt"
	"reflect"
	"slices"
	"testing"

	"loop.example/g01158/impl"
)

// filler is what lies behind the elements of a slice that is passed, up to its capacity.
const filler = 7070707

// roomy returns a deep copy of a value, whose slices have room behind their elements, so that an
// append to an argument does not go unseen.
func roomy(v reflect.Value) reflect.Value {
	made := reflect.New(v.Type()).Elem()
	switch v.Kind() {
	case reflect.Slice:
		if v.IsNil() {
			return made
		}
		made.Set(reflect.MakeSlice(v.Type(), v.Len()+4, v.Len()+4))
		for i := range v.Len() {
			made.Index(i).Set(roomy(v.Index(i)))
		}
		for i := v.Len(); i < made.Len(); i++ {
			scribble(made.Index(i))
		}
		made.Set(made.Slice(0, v.Len()))
	case reflect.Array:
		for i := range v.Len() {
			made.Index(i).Set(roomy(v.Index(i)))
		}
	case reflect.Struct:
		for i := range v.NumField() {
			made.Field(i).Set(roomy(v.Field(i)))
		}
	default:
		made.Set(v)
	}
	return made
}

// scribble overwrites a value, in slices all that lies in their capacity.
func scribble(v reflect.Value) {
	switch v.Kind() {
	case reflect.Slice:
		whole := v.Slice(0, v.Cap())
		for i := range whole.Len() {
			scribble(whole.Index(i))
		}
	case reflect.Array:
		for i := range v.Len() {
			scribble(v.Index(i))
		}
	case reflect.Struct:
		for i := range v.NumField() {
			scribble(v.Field(i))
		}
	case reflect.Int:
		v.SetInt(filler)
	case reflect.String:
		v.SetString("scribble")
	case reflect.Bool:
		v.SetBool(!v.Bool())
	}
}

// picture shows a value; a nil slice and an empty one look the same. With room, what lies behind
// the elements of slices is shown, too.
func picture(v reflect.Value, room bool) string {
	switch v.Kind() {
	case reflect.Slice, reflect.Array:
		if room && v.Kind() == reflect.Slice {
			v = v.Slice(0, v.Cap())
		}
		s := "["
		for i := range v.Len() {
			s += picture(v.Index(i), room) + " "
		}
		return s + "]"
	case reflect.Struct:
		s := "{"
		for i := range v.NumField() {
			s += picture(v.Field(i), room) + " "
		}
		return s + "}"
	case reflect.String:
		return fmt.Sprintf("%q", v.String())
	}
	return fmt.Sprint(v.Interface())
}

func pictures(values []reflect.Value, room bool) string {
	s := ""
	for _, v := range values {
		s += picture(v, room) + "; "
	}
	return s
}

// isZero reports whether a result is what a function that fails returns.
func isZero(v reflect.Value) bool {
	switch v.Kind() {
	case reflect.Slice:
		return v.Len() == 0
	case reflect.Struct:
		for i := range v.NumField() {
			if !isZero(v.Field(i)) {
				return false
			}
		}
		return true
	}
	return v.IsZero()
}

// slicesIn appends all slices in a value to a list.
func slicesIn(v reflect.Value, list []reflect.Value) []reflect.Value {
	switch v.Kind() {
	case reflect.Slice:
		list = append(list, v)
		for i := range v.Len() {
			list = slicesIn(v.Index(i), list)
		}
	case reflect.Struct:
		for i := range v.NumField() {
			list = slicesIn(v.Field(i), list)
		}
	}
	return list
}

// sharesMemory reports whether two of the slices in some values overlap.
func sharesMemory(values []reflect.Value) bool {
	all := []reflect.Value{}
	for _, v := range values {
		all = slicesIn(v, all)
	}
	type part struct{ from, to uintptr }
	parts := []part{}
	for _, v := range all {
		if v.Cap() > 0 {
			parts = append(parts, part{v.Pointer(), v.Pointer() + uintptr(v.Cap())*v.Type().Elem().Size()})
		}
	}
	slices.SortFunc(parts, func(a, b part) int { return int(int64(a.from) - int64(b.from)) })
	for i := 1; i < len(parts); i++ {
		if parts[i].from < parts[i-1].to {
			return true
		}
	}
	return false
}

// checkCall calls a function twice and checks what the conventions say of every call: it
// returns the same results both times, zero values if it fails, and neither changes an argument
// nor returns memory of one. It reports whether the last result is true.
func checkCall(t *testing.T, name string, function any, args []reflect.Value) bool {
	t.Helper()
	given := []reflect.Value{}
	for _, arg := range args {
		given = append(given, roomy(arg))
	}
	before := pictures(given, true)
	told := func() string { return name + "(" + shorten(pictures(args, false)) + ")" }
	defer func() {
		if r := recover(); r != nil {
			t.Fatalf("%s panics: %v", told(), r)
		}
	}()
	results := reflect.ValueOf(function).Call(given)
	first := pictures(results, false)
	ok := true
	if last := results[len(results)-1]; last.Kind() == reflect.Bool {
		ok = last.Bool()
	}
	for _, result := range results {
		if !ok && !isZero(result) {
			t.Fatalf("%s fails with %s", told(), shorten(first))
		}
	}
	if pictures(given, true) != before {
		t.Fatalf("%s changes an argument", told())
	}
	if sharesMemory(append(results, given...)) {
		t.Fatalf("%s returns memory that is shared", told())
	}
	for _, result := range results {
		writable := reflect.New(result.Type()).Elem()
		writable.Set(result)
		scribble(writable)
	}
	if pictures(given, true) != before {
		t.Fatalf("%s returns memory of an argument", told())
	}
	if again := pictures(reflect.ValueOf(function).Call(given), false); again != first {
		t.Fatalf("%s = %s, then %s", told(), shorten(first), shorten(again))
	}
	return ok
}

// checkCalls calls a function with all arguments out of pools, one pool for each type, and tells
// each call and whether its last result is true to see.
func checkCalls(t *testing.T, name string, function any, pools []any, see func(args []any, ok bool)) {
	t.Helper()
	kind := reflect.TypeOf(function)
	args := []reflect.Value{}
	var choose func()
	choose = func() {
		if len(args) == kind.NumIn() {
			ok := checkCall(t, name, function, args)
			plain := []any{}
			for _, arg := range args {
				plain = append(plain, arg.Interface())
			}
			see(plain, ok)
			return
		}
		for _, pool := range pools {
			values := reflect.ValueOf(pool)
			if values.Type().Elem() != kind.In(len(args)) {
				continue
			}
			for i := range values.Len() {
				args = append(args, values.Index(i))
				choose()
				args = args[:len(args)-1]
			}
		}
	}
	choose()
}

type named struct {
	name     string
	function any
}

// checkTotal calls some functions with all arguments out of pools. Each one must succeed for some
// of them, and fail for all Mazes, Works, Worlds and Traps that are not valid.
func checkTotal(t *testing.T, functions []named, pools []any) {
	t.Helper()
	for _, f := range functions {
		succeeds := 0
		checkCalls(t, f.name, f.function, pools, func(args []any, ok bool) {
			for _, arg := range args {
				if m, is := arg.(impl.Maze); is && !plainIsMaze(m) && ok {
					t.Fatal(f.name, "does not fail for", textOf(m))
				}
				if w, is := arg.(impl.Works); is && !plainIsWorks(w) && ok {
					t.Fatal(f.name, "does not fail for", worksText(w))
				}
				if w, is := arg.(impl.Worlds); is && !plainIsWorlds(w) && ok {
					t.Fatal(f.name, "does not fail for", worldsText(w))
				}
				if trap, is := arg.(impl.Trap); is && !plainIsTrap(trap) && ok {
					t.Fatal(f.name, "does not fail for", trapText(trap))
				}
			}
			if ok {
				succeeds++
			}
		})
		if succeeds == 0 {
			t.Error(f.name, "always fails")
		}
	}
}
