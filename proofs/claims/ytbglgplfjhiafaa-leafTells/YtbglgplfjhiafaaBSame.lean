/-
  The contract of whether octets are one. Conditions: those that it names.
-/
import Derived.Test.YtbglgplfjhiafaaBytes
namespace Go.Proofs.Ytbglgplfjhiafaa
open Go.RowKit
set_option linter.unusedVariables false

theorem sameBytes_any (w : World) (a b : Option Addr) (n c m d : Nat) (l k : List UInt8) (ha : IsB w a n l) (hb : IsB w b m k) :
    Calls Try.prog 15 #[.slice a n c, .slice b m d] w fun e w' => e = .returned (.bool (l == k)) ∧ w = w' := by
  have e1 := conv_bytes w a n c l ha
  have e2 := conv_bytes w b m d k hb
  clear ha hb
  go_enter Try.func15, Try.ntmps15
  go_wp2
  go_ret
  exact ⟨rfl, rfl⟩

end Go.Proofs.Ytbglgplfjhiafaa
