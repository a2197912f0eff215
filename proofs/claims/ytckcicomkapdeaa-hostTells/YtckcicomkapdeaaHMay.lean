/-
  The contracts of what tells whether an act may wait, of the search for odd ones, and of Check of the program's host. Conditions: those that each contract names.
-/
import Derived.Test.YtckcicomkapdeaaRows
import Derived.Test.YtckcicomkapdeaaRHBase
import Derived.Test.YtckcicomkapdeaaHPlain
import Derived.Test.YtckcicomkapdeaaBytes
namespace Go.Proofs.Ytckcicomkapdeaa
open Go.RowKit
set_option linter.unusedVariables false

theorem ret_bool {b c : Bool} (h : b = true ↔ c = true) : Ending.returned (.bool b) = .returned (.bool c) := by rw [Bool.eq_iff_iff.2 h]

set_option maxHeartbeats 800000 in
theorem may_u (w : World) (a : Act) (x : Option Addr) (m d : Nat) (cp : Int) (hm : a.2.2.length = m) :
    Calls Try.prog 46 #[.agg #[.int .i64 a.1, .int .i64 a.2.1, .slice x m d], .int .i64 cp] w fun e w' => e = .returned (.bool (Hst.actOk cp a)) ∧ Below w.heap.size w w' := by
  obtain ⟨what, pos, X⟩ := a
  have HOK : Hid (Hst.actOk cp (what, pos, X) = true ↔ (what = 1 ∧ 0 ≤ pos ∧ pos < cp ∧ m = 64) ∨ (what = 2 ∧ 0 ≤ pos ∧ pos ≤ cp ∧ m = 0)) := by
    have h : X.length = m := hm
    rw [← h]; exact act_iff cp (what, pos, X)
  clear hm
  obtain ⟨w0, hw0, p0, p1, p2, b0, z0⟩ := boxed3 w 67 (.int .i64 what) (.int .i64 pos) (.slice x m d)
  go_enter Try.func46, Try.ntmps46
  go_wp2
  all_goals go_ret
  all_goals simp only [beq_iff_eq, beq_eq_false_iff_ne, ne_eq] at *
  all_goals refine ⟨ret_bool ?_, b0⟩
  all_goals rw [HOK.out]
  all_goals first
    | omega
    | (simp only [beq_iff_eq]; omega)
    | (simp only [Bool.false_eq_true, false_iff]; omega)

theorem oddSector_u (w : World) (x : Option Addr) (m d : Nat) (r : Bool) (hr : ((m : Int) != 64) = r) :
    Calls Try.prog 44 #[.slice x m d] w fun e w' => e = .returned (.bool r) ∧ w = w' := by
  subst hr
  go_enter Try.func44, Try.ntmps44
  go_wp2
  go_ret
  exact ⟨rfl, rfl⟩

theorem oddAct_u (w : World) (a : Act) (x : Option Addr) (m d B : Nat) (cp : Int) (hm : a.2.2.length = m) (hc : w.cell? ⟨B, 2, none⟩ = some (.int .i64 cp)) :
    Calls Try.prog 45 #[.agg #[.int .i64 a.1, .int .i64 a.2.1, .slice x m d], .pointer (some ⟨B, 0, none⟩)] w fun e w' => e = .returned (.bool (!Hst.actOk cp a)) ∧ Below w.heap.size w w' := by
  obtain ⟨w0, hw0, p0, p1, p2, b0, z0⟩ := boxed3 w 67 (.int .i64 a.1) (.int .i64 a.2.1) (.slice x m d)
  have hB := World.block_lt_of_cell? w _ hc
  have q := (b0.cell (p := ⟨B, 2, none⟩) hB).trans hc
  have HM : Hid _ := hm
  clear hm
  go_enter Try.func45, Try.ntmps45
  go_wp2_with (go_at_call 46; refine (may_u _ a x m d cp HM.out).mono ?_; rintro e w1 ⟨rfl, b1⟩)
  go_ret
  exact ⟨rfl, b0.trans (b1.mono (by omega))⟩

set_option maxHeartbeats 800000 in
theorem indexSectors_u (w : World) (P : Nat → Prop) (a : Option Addr) (n c : Nat) (L : List (List UInt8)) (hA : rSectors.rd w P [.slice a n c] L) (hL : L.length = n) (hn : n ≤ 5864062014634) :
    Calls Try.prog 54 #[.slice a n c, .func (.func 44) #[] #[]] w fun e w' => ∃ r : Int, e = .returned (.int .i64 r) ∧ (0 ≤ r ↔ ¬ ∀ j (h : j < L.length), L[j].length = 64) ∧ Below w.heap.size w w' := by
  have HN : Hid _ := hL
  clear hL
  go_enter Try.func54, Try.ntmps54
  go_wp2
  go_loopw [8] (fun i wr => ∃ k : Nat, k ≤ n ∧ i = .int .i64 k ∧ Hid (∀ j (h : j < L.length), j < k → L[j].length = 64) ∧ Below w.heap.size w wr) (fun i _ => n - (intOf i).toNat)
  case atStart => exact ⟨0, Nat.zero_le _, rfl, (fun j _ h => by omega), Below.refl _ _⟩
  case round =>
    obtain ⟨k, hk, rfl, HK, bel⟩ := hrel
    by_cases hlt : k < n
    · have hAr := Rep.below hA bel
      obtain ⟨g, off, rfl, -, -, hat⟩ := rLists_at hAr (by omega)
      have hkl : k < L.length := by rw [HN.out]; exact hlt
      obtain ⟨x, l, e, -, hl, hcell⟩ := hat k hkl
      have HL : Hid _ := hl
      clear hat hl hAr
      by_cases h64 : l = 64
      · subst h64
        go_wp2_with (go_at_call 44; refine (oddSector_u _ x 64 e false rfl).mono ?_; rintro e w1 ⟨rfl, rfl⟩)
        go_roundw
        case rel => exact ⟨k + 1, by omega, by go_num, (fun j hj hjk => by
            by_cases ejk : j = k
            · subst ejk; exact HL.out
            · exact HK.out j hj (by omega)), bel⟩
        case measure => simp [intOf]; omega
      · have hne : ((l : Int) != 64) = true := bne_iff_ne.2 (by omega)
        go_wp2_with (go_at_call 44; refine (oddSector_u _ x l e true hne).mono ?_; rintro e w1 ⟨rfl, rfl⟩)
        go_ret
        exact ⟨k, rfl, ⟨fun _ h => h64 (by rw [← HL.out]; exact h k hkl), fun _ => by omega⟩, bel⟩
    · obtain rfl : k = n := by omega
      go_wp2
      go_ret
      exact ⟨-1, rfl, ⟨fun h => by omega, fun h => absurd (fun j hj => HK.out j hj (by rw [← HN.out]; exact hj)) h⟩, bel⟩

set_option maxHeartbeats 800000 in
theorem indexActs_u (w : World) (P : Nat → Prop) (a : Option Addr) (n c B : Nat) (cp : Int) (W : List Act) (hA : rWaits.rd w P [.slice a n c] W) (hL : W.length = n) (hn : n ≤ 3518437208780) (hc : w.cell? ⟨B, 2, none⟩ = some (.int .i64 cp)) :
    Calls Try.prog 55 #[.slice a n c, .func (.func 45) #[] #[.pointer (some ⟨B, 0, none⟩)]] w fun e w' => ∃ r : Int, e = .returned (.int .i64 r) ∧ (0 ≤ r ↔ ¬ ∀ j (h : j < W.length), Hst.actOk cp W[j] = true) ∧ Below w.heap.size w w' := by
  have HN : Hid _ := hL
  have hB := World.block_lt_of_cell? w _ hc
  clear hL
  go_enter Try.func55, Try.ntmps55
  go_wp2
  go_loopw [8] (fun i wr => ∃ k : Nat, k ≤ n ∧ i = .int .i64 k ∧ Hid (∀ j (h : j < W.length), j < k → Hst.actOk cp W[j] = true) ∧ Below w.heap.size w wr) (fun i _ => n - (intOf i).toNat)
  case atStart => exact ⟨0, Nat.zero_le _, rfl, (fun j _ h => by omega), Below.refl _ _⟩
  case round =>
    obtain ⟨k, hk, rfl, HK, bel⟩ := hrel
    by_cases hlt : k < n
    · have hAr := Rep.below hA bel
      obtain ⟨g, off, rfl, -, -, hat⟩ := rWaits_at hAr (by omega)
      have hkl : k < W.length := by rw [HN.out]; exact hlt
      obtain ⟨x, l, e, -, hl, c0, c1, c2, -, -⟩ := hat k hkl
      have HL : Hid _ := hl
      have q := (bel.cell (p := ⟨B, 2, none⟩) hB).trans hc
      have HQ : Hid _ := q
      have HKN := act_next hkl HK
      have HBAD : Hid (Hst.actOk cp W[k] = false → ¬ ∀ j (h : j < W.length), Hst.actOk cp W[j] = true) := fun h h2 => by rw [h2 k hkl] at h; cases h
      clear hat hl hAr q
      generalize W[k] = A at *
      have HKN' : Hid _ := HKN
      clear HKN
      cases hok : Hst.actOk cp A
      · have HBAD' : Hid _ := HBAD.out hok
        go_wp2_with (go_at_call 45; refine (oddAct_u _ A x l e B cp HL.out HQ.out).mono ?_; rintro e w1 ⟨rfl, b1⟩; rw [hok, Bool.not_false])
        go_ret
        exact ⟨k, rfl, ⟨fun _ => HBAD'.out, fun _ => by omega⟩, on bel b1⟩
      · have HG : Hid _ := HKN'.out hok
        go_wp2_with (go_at_call 45; refine (oddAct_u _ A x l e B cp HL.out HQ.out).mono ?_; rintro e w1 ⟨rfl, b1⟩; rw [hok, Bool.not_true])
        go_roundw
        case rel => exact ⟨k + 1, by omega, by go_num, HG.out, on bel b1⟩
        case measure => simp [intOf]; omega
    · obtain rfl : k = n := by omega
      go_wp2
      go_ret
      exact ⟨-1, rfl, ⟨fun h => by omega, fun h => absurd (fun j hj => HK.out j hj (by rw [← HN.out]; exact hj)) h⟩, bel⟩

theorem containsSectors_u (w : World) (P : Nat → Prop) (a : Option Addr) (n c : Nat) (L : List (List UInt8)) (hA : rSectors.rd w P [.slice a n c] L) (hL : L.length = n) (hn : n ≤ 5864062014634) :
    Calls Try.prog 47 #[.slice a n c, .func (.func 44) #[] #[]] w fun e w' => e = .returned (.bool (!L.all (fun b => decide (b.length = 64)))) ∧ Below w.heap.size w w' := by
  go_enter Try.func47, Try.ntmps47
  go_wp2_with (go_at_call 54; refine (indexSectors_u _ P a n c L hA hL hn).mono ?_; rintro e w1 ⟨r, rfl, hr, b1⟩; have HR : Hid _ := hr; clear hr)
  go_ret
  refine ⟨ret_bool ?_, b1⟩
  rw [decide_eq_true_eq, HR.out]
  simp only [Bool.not_eq_true', List.all_eq_false, decide_eq_true_eq]
  constructor
  · intro h
    exact Classical.byContradiction fun h2 => h (fun j hj => Classical.byContradiction fun h3 => h2 ⟨_, List.getElem_mem hj, h3⟩)
  · rintro ⟨x, hx, h⟩ h2
    obtain ⟨j, hj, rfl⟩ := List.getElem_of_mem hx
    exact h (h2 j hj)

theorem containsActs_u (w : World) (P : Nat → Prop) (a : Option Addr) (n c B : Nat) (cp : Int) (W : List Act) (hA : rWaits.rd w P [.slice a n c] W) (hL : W.length = n) (hn : n ≤ 3518437208780) (hc : w.cell? ⟨B, 2, none⟩ = some (.int .i64 cp)) :
    Calls Try.prog 48 #[.slice a n c, .func (.func 45) #[] #[.pointer (some ⟨B, 0, none⟩)]] w fun e w' => e = .returned (.bool (!W.all (Hst.actOk cp))) ∧ Below w.heap.size w w' := by
  have HC : Hid _ := hc
  clear hc
  go_enter Try.func48, Try.ntmps48
  go_wp2_with (go_at_call 55; refine (indexActs_u _ P a n c B cp W hA hL hn HC.out).mono ?_; rintro e w1 ⟨r, rfl, hr, b1⟩; have HR : Hid _ := hr; clear hr)
  go_ret
  refine ⟨ret_bool ?_, b1⟩
  rw [decide_eq_true_eq, HR.out]
  simp only [Bool.not_eq_true', List.all_eq_false]
  constructor
  · intro h
    exact Classical.byContradiction fun h2 => h (fun j hj => Classical.byContradiction fun h3 => h2 ⟨_, List.getElem_mem hj, h3⟩)
  · rintro ⟨x, hx, h⟩ h2
    obtain ⟨j, hj, rfl⟩ := List.getElem_of_mem hx
    exact h (h2 j hj)

set_option maxHeartbeats 1000000 in
theorem check_u (w : World) (P : Nat → Prop) (cs : List Value) (s : Host) (hS : rHost.rd w P cs s) :
    Calls Try.prog 26 #[.agg cs.toArray] w fun e w' => e = .returned (.int .i64 (Hst.checkE s)) ∧ Below w.heap.size w w' := by
  obtain ⟨a, n, c, b, m, d, rfl, hA, hW, hn, hm, hc1, hc2, hn2, hm2⟩ := rHost_cells hS
  obtain ⟨L, W, cp⟩ := s
  obtain ⟨w0, hw0, p0, p1, p2, b0, z0⟩ := boxed3 w 30 (.slice a n c) (.slice b m d) (.int .i64 cp)
  have hA0 := Rep.below hA b0
  have hW0 := Rep.below hW b0
  simp only at hn hm hc1 hc2 hA0 hW0
  clear hA hW hS
  have HN : Hid _ := hn
  have HM : Hid _ := hm
  clear hn hm
  have HE : Hid (Hst.checkE (L, W, cp) = if L.all (fun b => decide (b.length = 64)) = true ∧ W.all (Hst.actOk cp) = true then (if (1 ≤ cp ∧ cp ≤ 65536) ∧ (n : Int) ≤ cp ∧ m ≤ 4096 then 0 else 9) else 9) := by
    unfold Hid Hst.checkE Hst.ok Hst.headOk
    rw [← HN.out, ← HM.out]
    cases L.all (fun b => decide (b.length = 64)) <;> cases W.all (Hst.actOk cp) <;> simp [and_assoc]
  generalize Hst.checkE (L, W, cp) = E at *
  go_enter Try.func26, Try.ntmps26
  cases hs : L.all (fun b => decide (b.length = 64)) <;> cases ha : W.all (Hst.actOk cp)
  all_goals rw [hs, ha] at HE
  all_goals simp only [and_self, and_true, and_false, Bool.false_eq_true, if_true, if_false] at HE
  all_goals go_wp2_with (first
    | (go_at_call 47; refine (containsSectors_u _ P a n c L hA0 HN.out hn2).mono ?_; rintro e w1 ⟨rfl, b1⟩; rw [hs]; have q1 := (b1.cell (p := ⟨w.heap.size, 1, none⟩) (by show w.heap.size < _; omega)).trans p1; have q2 := (b1.cell (p := ⟨w.heap.size, 2, none⟩) (by show w.heap.size < _; omega)).trans p2)
    | (go_at_call 48; refine (containsActs_u _ P b m d w.heap.size cp W (Rep.below hW0 b1) HM.out hm2 q2).mono ?_; rintro e w2 ⟨rfl, b2⟩; rw [ha]))
  all_goals go_ret
  all_goals refine ⟨?_, ?_⟩
  all_goals first
    | exact b0
    | exact b0.trans (b1.mono (by omega))
    | exact b0.trans ((on b1 b2).mono (by omega))
    | (rw [HE.out]; rfl)
    | (rw [HE.out, if_neg (by omega)]; rfl)
    | (rw [HE.out, if_pos (by omega)]; rfl)

end Go.Proofs.Ytckcicomkapdeaa
