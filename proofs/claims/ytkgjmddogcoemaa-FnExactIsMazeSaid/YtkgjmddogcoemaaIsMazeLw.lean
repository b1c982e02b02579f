/-
  CONTRACTS of IsMaze as the law's walk takes them.
-/
import Derived.Test.YtkgjmddogcoemaaSpecMaze
namespace Go.Proofs.Ytkgjmddogcoemaa
open Go.RowKit
namespace C
theorem specIsMaze_lw (w : World) (lo hi : Nat) (m : M.Mz) (a b : Option Addr) (c d : Nat) (h : MzIn lo hi w m a c b d) (hz : hi ≤ w.heap.size) (_h1 : m.doors.length ≤ 1048576) (_h2 : m.keys.length ≤ 1048576) :
    Calls Try.prog 20 #[.agg #[.int .i64 m.size, .slice a m.doors.length c, .slice b m.keys.length d]] w (BoolPost w (M.mazeB m)) := specIsMaze_any w lo hi m a b c d h hz
theorem isMaze_lw (w : World) (lo hi : Nat) (m : M.Mz) (a b : Option Addr) (c d : Nat) (h : MzIn lo hi w m a c b d) (hz : hi ≤ w.heap.size) (_h1 : m.doors.length ≤ 1048576) (_h2 : m.keys.length ≤ 1048576) :
    Calls Try.prog 22 #[.agg #[.int .i64 m.size, .slice a m.doors.length c, .slice b m.keys.length d]] w (BoolPost w (M.mazeB m)) := isMaze_any w lo hi m a b c d h hz
end C
end Go.Proofs.Ytkgjmddogcoemaa
