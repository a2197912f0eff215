/-
  The contract of the program's Check of a superblock. Conditions: those that each contract names.
-/
import Derived.Test.YtdgnkpmjjapmpabRows
import Derived.Test.YtdgnkpmjjapmpabSBox
namespace Go.Proofs.Ytdgnkpmjjapmpab
open Go.RowKit
set_option linter.unusedVariables false

theorem isWithin_u (w : World) (n lo hi : Int) (r : Bool) (hr : Sup.within n lo hi = r) : Calls Try.prog 22 #[.int .i64 n, .int .i64 lo, .int .i64 hi] w fun e w' => e = .returned (.bool r) ∧ w = w' := by
  subst hr
  unfold Sup.within
  go_enter Try.func22, Try.ntmps22
  go_wp2
  all_goals go_ret
  · rename_i h
    refine ⟨?_, rfl⟩
    simp [h]
  · rename_i h
    refine ⟨?_, rfl⟩
    have h' : ¬ lo ≤ n := by omega
    simp [h']

set_option maxHeartbeats 1000000 in
theorem check4_u (w : World) (P : Nat → Prop) (cs : List Value) (s : Super) (hS : rSuper.rd w P cs s) :
    Calls Try.prog 11 #[.agg cs.toArray] w fun e w' => e = .returned (.int .i64 (Sup.checkE s)) ∧ Below w.heap.size w w' := by
  obtain ⟨a, b, c, d, e, f, g, rfl, rfl⟩ := rSuper_rd hS
  clear hS
  obtain ⟨w0, hw0, V, b0, -⟩ := boxedRow w 29 [.int .i64 a, .int .i64 b, .int .i64 c, .int .i64 d, .int .i64 e, .int .i64 f, .int .i64 g]
  have c0 := V.cell (j := 0) rfl
  have c1 := V.cell (j := 1) rfl
  have c2 := V.cell (j := 2) rfl
  have c3 := V.cell (j := 3) rfl
  have c4 := V.cell (j := 4) rfl
  have c5 := V.cell (j := 5) rfl
  have c6 := V.cell (j := 6) rfl
  clear V
  generalize hr : Sup.checkE (a, b, c, d, e, f, g) = r
  unfold Sup.checkE Sup.ok at hr
  have HR : Hid _ := hr
  clear hr
  go_enter Try.func11, Try.ntmps11
  go_wp2_with fail
  cases h0 : Sup.within a 0 1099511627776
  · refine (isWithin_u _ _ _ _ _ h0).mono ?_
    rintro ex wK ⟨rfl, rfl⟩
    have E : r = 4 := by rw [← HR.out]; simp [h0]
    subst E
    clear HR
    go_wp2
    go_ret
    exact ⟨rfl, b0⟩
  refine (isWithin_u _ _ _ _ _ h0).mono ?_
  rintro ex wK ⟨rfl, rfl⟩
  have H0 : Hid _ := h0
  clear h0
  go_wp2_with fail
  cases h1 : Sup.within b 0 65536
  · refine (isWithin_u _ _ _ _ _ h1).mono ?_
    rintro ex wK ⟨rfl, rfl⟩
    have E : r = 4 := by rw [← HR.out]; simp [h1]
    subst E
    clear HR
    go_wp2
    go_ret
    exact ⟨rfl, b0⟩
  refine (isWithin_u _ _ _ _ _ h1).mono ?_
  rintro ex wK ⟨rfl, rfl⟩
  have H1 : Hid _ := h1
  clear h1
  go_wp2_with fail
  cases h2 : Sup.within c 1 1024
  · refine (isWithin_u _ _ _ _ _ h2).mono ?_
    rintro ex wK ⟨rfl, rfl⟩
    have E : r = 4 := by rw [← HR.out]; simp [h2]
    subst E
    clear HR
    go_wp2
    go_ret
    exact ⟨rfl, b0⟩
  refine (isWithin_u _ _ _ _ _ h2).mono ?_
  rintro ex wK ⟨rfl, rfl⟩
  have H2 : Hid _ := h2
  clear h2
  go_wp2_with fail
  cases h3 : Sup.within d 1 2048
  · refine (isWithin_u _ _ _ _ _ h3).mono ?_
    rintro ex wK ⟨rfl, rfl⟩
    have E : r = 4 := by rw [← HR.out]; simp [h3]
    subst E
    clear HR
    go_wp2
    go_ret
    exact ⟨rfl, b0⟩
  refine (isWithin_u _ _ _ _ _ h3).mono ?_
  rintro ex wK ⟨rfl, rfl⟩
  have H3 : Hid _ := h3
  clear h3
  go_wp2_with fail
  cases h4 : Sup.within e 0 65536
  · refine (isWithin_u _ _ _ _ _ h4).mono ?_
    rintro ex wK ⟨rfl, rfl⟩
    have E : r = 4 := by rw [← HR.out]; simp [h4]
    subst E
    clear HR
    go_wp2
    go_ret
    exact ⟨rfl, b0⟩
  refine (isWithin_u _ _ _ _ _ h4).mono ?_
  rintro ex wK ⟨rfl, rfl⟩
  have H4 : Hid _ := h4
  clear h4
  go_wp2_with fail
  cases h5 : Sup.within f 0 1099511627776
  · refine (isWithin_u _ _ _ _ _ h5).mono ?_
    rintro ex wK ⟨rfl, rfl⟩
    have E : r = 4 := by rw [← HR.out]; simp [h5]
    subst E
    clear HR
    go_wp2
    go_ret
    exact ⟨rfl, b0⟩
  refine (isWithin_u _ _ _ _ _ h5).mono ?_
  rintro ex wK ⟨rfl, rfl⟩
  have H5 : Hid _ := h5
  clear h5
  go_wp2_with fail
  cases h6 : Sup.within g 0 d
  · refine (isWithin_u _ _ _ _ _ h6).mono ?_
    rintro ex wK ⟨rfl, rfl⟩
    have E : r = 4 := by rw [← HR.out]; simp [h6]
    subst E
    clear HR
    go_wp2
    go_ret
    exact ⟨rfl, b0⟩
  refine (isWithin_u _ _ _ _ _ h6).mono ?_
  rintro ex wK ⟨rfl, rfl⟩
  have H6 : Hid _ := h6
  clear h6
  have E : r = 0 := by rw [← HR.out]; simp [H0.out, H1.out, H2.out, H3.out, H4.out, H5.out, H6.out]
  subst E
  clear HR
  go_wp2
  go_ret
  exact ⟨rfl, b0⟩

end Go.Proofs.Ytdgnkpmjjapmpab
