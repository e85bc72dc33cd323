/- The draw of one case out of n. -/
import Derived.Test.YtlfhfcgcfggjcaaDrawBase
namespace Go.Proofs.Ytlfhfcgcfggjcaa.dw
open Go.ChangeShapes Go.WideShapes Go.ChangeAt Go.RowKit

theorem draw_once (p : Nat) (a : Option Addr) (len cap n : Nat) (w : World) (hn : 1 ≤ n ∧ n ≤ 4294967296) (hc : Cur w p a len cap) :
    Calls Try.prog 24 #[.pointer (some ⟨p, 0, none⟩), .int .i64 n] w fun e w' => (∃ b : Bool, e = .returned (.bool b)) ∧ Cur w' p a len cap ∧ On p w w' := by
  have h1 := draw_below p a len cap n w hn hc
  clear hc
  go_enter Try.func24, Try.ntmps24
  go_wp2_with (go_at_call 20; refine h1.mono ?_; rintro e w1 ⟨⟨x, hx, rfl⟩, hc1, hb1⟩)
  go_ret
  exact ⟨⟨_, rfl⟩, hc1, hb1⟩
end Go.Proofs.Ytlfhfcgcfggjcaa.dw
