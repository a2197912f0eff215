/-
  The contract of the document's own Decode of a superblock. Conditions: those that each contract names.
-/
import Derived.Test.YtdgnkpmjjapmpaaRSEnc
import Derived.Test.YtdgnkpmjjapmpaaORefUnpack
namespace Go.Proofs.Ytdgnkpmjjapmpaa
open Go.RowKit
set_option linter.unusedVariables false

set_option maxHeartbeats 1000000 in
theorem refDecode_short (w : World) (a : Option Addr) (n cap : Nat) (hn : n ≤ 140737488351232) (h : n ≠ 64) :
    Calls Try.prog 13 #[.slice a n cap] w fun e w' => e = .returned (.tuple #[.agg (cells7 Sup.zero).toArray, .int .i64 8]) ∧ Below w.heap.size w w' := by
  have hne : ((n : Int) != 64) = true := bne_iff_ne.2 (by omega)
  obtain ⟨w0, hw0, V, bw0, -⟩ := boxedRow w 23 [.int .i64 0, .int .i64 0, .int .i64 0, .int .i64 0, .int .i64 0, .int .i64 0, .int .i64 0]
  have c0 := V.cell (j := 0) rfl
  have c1 := V.cell (j := 1) rfl
  have c2 := V.cell (j := 2) rfl
  have c3 := V.cell (j := 3) rfl
  have c4 := V.cell (j := 4) rfl
  have c5 := V.cell (j := 5) rfl
  have c6 := V.cell (j := 6) rfl
  have f0 := V.frozen 0
  have f1 := V.frozen 1
  have f2 := V.frozen 2
  have f3 := V.frozen 3
  have f4 := V.frozen 4
  have f5 := V.frozen 5
  have f6 := V.frozen 6
  go_enter Try.func13, Try.ntmps13
  go_wp2
  exact sup_ret V bw0 (Nat.le_refl _) _ _ _ _ _ _ _ _ rfl rfl rfl Try.underlying23 rfl (by kernel_rfl) (fun w' _ b' => ⟨rfl, b'⟩)

set_option maxHeartbeats 1000000 in
theorem refDecode_open (w : World) (a : Option Addr) (cap : Nat) (l : List UInt8) (hcap : 64 ≤ cap) (hB : IsB w a 64 l) (hE : Crc.openE l ≠ 0) :
    Calls Try.prog 13 #[.slice a 64 cap] w fun e w' => e = .returned (.tuple #[.agg (cells7 Sup.zero).toArray, .int .i64 21]) ∧ Below w.heap.size w w' := by
  have HB : Hid (IsB _ _ _ _) := hB
  clear hB
  obtain ⟨w0, hw0, V, bw0, -⟩ := boxedRow w 23 [.int .i64 0, .int .i64 0, .int .i64 0, .int .i64 0, .int .i64 0, .int .i64 0, .int .i64 0]
  go_enter Try.func13, Try.ntmps13
  go_wp2_with fail
  refine (refOpen_u _ _ 64 _ l (by decide) hcap (HB.out.below bw0)).mono ?_
  rintro ex w1 ⟨xa, xn, xc, rfl, ho, bw1⟩
  have hEb : (Crc.openE l != 0) = true := bne_iff_ne.2 hE
  have V := V.below bw1
  have c0 := V.cell (j := 0) rfl
  have c1 := V.cell (j := 1) rfl
  have c2 := V.cell (j := 2) rfl
  have c3 := V.cell (j := 3) rfl
  have c4 := V.cell (j := 4) rfl
  have c5 := V.cell (j := 5) rfl
  have c6 := V.cell (j := 6) rfl
  have f0 := V.frozen 0
  have f1 := V.frozen 1
  have f2 := V.frozen 2
  have f3 := V.frozen 3
  have f4 := V.frozen 4
  have f5 := V.frozen 5
  have f6 := V.frozen 6
  clear ho hE
  go_wp2
  exact sup_ret V (on bw0 bw1) (Nat.le_refl _) _ _ _ _ _ _ _ _ rfl rfl rfl Try.underlying23 rfl (by kernel_rfl) (fun w' _ b' => ⟨rfl, b'⟩)

end Go.Proofs.Ytdgnkpmjjapmpaa
