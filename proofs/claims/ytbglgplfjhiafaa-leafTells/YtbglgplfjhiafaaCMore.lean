/-
  What the laws of the checksum lean on: what More answers. Conditions: none.
-/
import Derived.Test.YtbglgplfjhiafaaCrcSaid
namespace Go.Proofs.Ytbglgplfjhiafaa
open Go.RowKit

def MoreSaid : Prop := ∀ (w : World) (c : Nat) (a : Option Addr) (n cap : Nat) (l : List UInt8), c < 4294967296 → n ≤ 140737488355328 → n ≤ cap → IsB w a n l →
  Calls Try.prog 50 #[.int .u32 c, .slice a n cap] w fun e w' => e = .returned (.int .u32 (Crc.more c l : Nat)) ∧ Below w.heap.size w w'

end Go.Proofs.Ytbglgplfjhiafaa
