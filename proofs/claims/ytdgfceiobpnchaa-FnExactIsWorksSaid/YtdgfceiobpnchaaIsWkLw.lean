/-
  CONTRACTS of IsWorks as the law's walk takes them.
-/
import Derived.Test.YtdgfceiobpnchaaWkSpec
import Derived.Test.YtdgfceiobpnchaaWkImp
namespace Go.Proofs.Ytdgfceiobpnchaa
open Go.RowKit
namespace C
theorem specIsWorks_lw (w : World) (lo hi : Nat) (m : M.Wk) (a b : Option Addr) (c d : Nat) (h : WkIn lo hi w m a c b d) (hz : hi ≤ w.heap.size) (_h1 : m.gates.length ≤ 1048576) (_h2 : m.pulls.length ≤ 1048576) :
    Calls Try.prog 18 #[.agg #[.int .i64 m.size, .slice a m.gates.length c, .slice b m.pulls.length d]] w (BoolPost w (M.worksB m)) := specIsWorks_any w lo hi m a b c d h hz
theorem isWorks_lw (w : World) (lo hi : Nat) (m : M.Wk) (a b : Option Addr) (c d : Nat) (h : WkIn lo hi w m a c b d) (hz : hi ≤ w.heap.size) (_h1 : m.gates.length ≤ 1048576) (_h2 : m.pulls.length ≤ 1048576) :
    Calls Try.prog 20 #[.agg #[.int .i64 m.size, .slice a m.gates.length c, .slice b m.pulls.length d]] w (BoolPost w (M.worksB m)) := isWorks_any w lo hi m a b c d h hz
end C
end Go.Proofs.Ytdgfceiobpnchaa
