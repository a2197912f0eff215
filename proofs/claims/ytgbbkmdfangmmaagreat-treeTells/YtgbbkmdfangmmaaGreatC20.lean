/-
  Facts that the proof rests on, part 21. Conditions: those that each of them names.
-/
import Derived.ChangeOld
import Derived.OpenShut
import Derived.ProofKit
import Derived.ShutString
import Derived.SizedLaws
import Derived.Test.YtgbbkmdfangmmaaGreatRows
import Derived.Test.YtgbbkmdfangmmaaGreatC02
import Derived.Test.YtgbbkmdfangmmaaGreatC03
import Derived.Test.YtgbbkmdfangmmaaGreatC05
import Derived.Test.YtgbbkmdfangmmaaGreatC07
import Derived.Test.YtgbbkmdfangmmaaGreatC08
import Derived.Test.YtgbbkmdfangmmaaGreatC13
import Derived.Test.YtgbbkmdfangmmaaGreatC15
import Derived.Test.YtgbbkmdfangmmaaGreatC17
namespace Go.Proofs.YtgbbkmdfangmmaaGreat
set_option maxRecDepth 20000
open Go.ChangeShapes Go.WideShapes Go.ChangeAt Go.RowKit
theorem own : ownKnob Tryz.prog.godebug = none := by kernel_rfl
theorem laidOut : laidOutB Tryz.prog = true := by kernel_rfl
theorem opens_octets : Opens Tryz.prog 72 rBytes := opens_list Tryz.underlying72 (by kernel_rfl) (by kernel_rfl) (opens_byte Tryz.underlying5)
theorem opens_sectors : Opens Tryz.prog 22 rSectors := opens_list Tryz.underlying22 (by kernel_rfl) (by kernel_rfl) opens_octets
theorem opens_pages : Opens Tryz.prog 24 rSectors :=
  opens_struct Tryz.underlying24 (by kernel_rfl) (opens_last rfl (by kernel_rfl) opens_sectors)
theorem rPages_rd {w : World} {P : Nat → Prop} {cs : List Value} {s : List (List UInt8)} (h : rSectors.rd w P cs s) : ∃ a n c, cs = [.slice a n c] ∧ s.length = n ∧ n ≤ 5864062014634 := by
  obtain ⟨a, n, c, e, h1, -, -, h4, -⟩ := h
  have h5 : n * 24 ≤ 140737488351232 := h4
  exact ⟨a, n, c, e, h1, by omega⟩
end Go.Proofs.YtgbbkmdfangmmaaGreat
namespace Go.Proofs.YtgbbkmdfangmmaaGreat
set_option maxRecDepth 20000
open Go.RowKit
set_option linter.unusedVariables false
set_option maxHeartbeats 1000000 in
theorem of8_u (w : World) (P : Nat → Prop) (s : Pgs) (a : Option Addr) (n c : Nat) (hR : rSectors.rd w P [.slice a n c] s) :
    Calls Tryz.prog 9 #[.agg #[.slice a n c]] w fun e w' => ∃ b d, e = .returned (.agg #[.slice b n d]) ∧ rSectors.rd w' (fun k => w.heap.size ≤ k) [.slice b n d] s ∧ Below w.heap.size w w' := by
  obtain ⟨w1, hw1, V1, b1, z1⟩ := boxedRow w 24 [.slice a n c]
  obtain ⟨w2, hw2, V2, b2, z2⟩ := boxedRow w1 26 [.slice none 0 0]
  have B2 : Hid (Below w.heap.size w w2) := on b1 b2
  have HV2 : Hid (Row w2 w1.heap.size 26 [.slice none 0 0]) := V2
  have HZ : Hid (w.heap.size ≤ w1.heap.size) := b1.size
  have HZ1 : Hid (w1.heap.size = w.heap.size + 1) := z1
  have HC : Hid _ := copyList_r w2 P a n c s (Rep.below hR B2.out)
  have c0 := (V1.below b2).cell (j := 0) rfl
  clear V1 V2 b1 b2 z1 z2 hR
  go_enter Tryz.func9, Tryz.ntmps9
  go_wp2_with fail
  go_at_call 33
  refine Calls.mono HC.out ?_
  rintro e w3 ⟨b, d, rfl, hr, b3⟩
  have HV3 : Hid (Row w3 w1.heap.size 26 [.slice none 0 0]) := HV2.out.below b3
  have HR3 : Hid _ := hr
  have B3 : Hid (Below w.heap.size w w3) := on B2.out b3
  have HS2 : Hid (w1.heap.size < w2.heap.size) := HV2.out.lt
  have e0 := HV3.out.cell (j := 0) rfl
  have e1 := HV3.out.frozen 0
  clear hr b3
  go_wp2
  have hk : Kept (· ≠ w1.heap.size) w3 (w3.setCell ⟨w1.heap.size, 0, none⟩ (.slice b n d)) := (Kept.refl _ w3).setCell (p := ⟨w1.heap.size, 0, none⟩) (fun h => h rfl) _
  refine bodyPost_ret (results_row (xs := [.slice b n d]) rfl (by first | rfl | (simp only [HZ1.out]; rfl)) (HV3.out.set 0 _) Tryz.underlying26 rfl (by kernel_rfl)) rfl ⟨b, d, rfl, ?_, Kept.belowOf B3.out hk (by have := HZ.out; omega)⟩
  exact rSectors.weaken (Rep.kept HR3.out hk (fun q hq _ => by have h1 : w2.heap.size ≤ q := hq; have h2 := HS2.out; show q ≠ w1.heap.size; omega)) (fun q hq _ => by have h1 : w2.heap.size ≤ q := hq; have h2 := HS2.out; have h3 := HZ.out; show w.heap.size ≤ q; omega)
end Go.Proofs.YtgbbkmdfangmmaaGreat
namespace Go.Proofs.YtgbbkmdfangmmaaGreat
set_option maxRecDepth 20000
open Go.RowKit
set_option linter.unusedVariables false
set_option maxHeartbeats 800000 in
theorem sameList_r (w : World) (P Q : Nat → Prop) (a b : Option Addr) (n c m d : Nat) (L K : List (List UInt8)) (hA : rSectors.rd w P [.slice a n c] L) (hB : rSectors.rd w Q [.slice b m d] K) :
    Calls Tryz.prog 22 #[.slice a n c, .slice b m d] w fun e w' => e = .returned (.bool (L == K)) ∧ Below w.heap.size w w' := by
  obtain ⟨hn, hn2⟩ := rSectors_len hA
  obtain ⟨hm, hm2⟩ := rSectors_len hB
  have HN : Hid _ := hn
  have HM : Hid _ := hm
  clear hn hm
  by_cases hnm : n = m
  case neg =>
    have hf : (L == K) = false := beq_eq_false_iff_ne.2 (fun e => hnm (by rw [← HN.out, ← HM.out, e]))
    have hne : ((n : Int) != (m : Int)) = true := bne_iff_ne.2 (by omega)
    rw [hf]
    go_enter Tryz.func22, Tryz.ntmps22
    go_wp2
    go_ret
    exact ⟨rfl, Below.refl _ _⟩
  subst hnm
  go_enter Tryz.func22, Tryz.ntmps22
  go_wp2
  go_loopw [5] (fun i wr => ∃ k : Nat, k ≤ n ∧ i = .int .i64 k ∧ Hid (L.take k = K.take k) ∧ Below w.heap.size w wr) (fun i _ => n - (intOf i).toNat)
  case atStart => exact ⟨0, Nat.zero_le _, rfl, by unfold Hid; simp, Below.refl _ _⟩
  case round =>
    obtain ⟨k, hk, rfl, HK, bel⟩ := hrel
    by_cases hlt : k < n
    · have hAr := Rep.below hA bel
      have hBr := Rep.below hB bel
      obtain ⟨g, off, rfl, -, -, hat⟩ := rLists_at hAr (by omega)
      obtain ⟨g', off', rfl, -, -, hbt⟩ := rLists_at hBr (by omega)
      have hkl : k < L.length := by rw [HN.out]; exact hlt
      have hkk : k < K.length := by rw [HM.out]; exact hlt
      obtain ⟨x, l, e, hx, -, hcell⟩ := hat k hkl
      obtain ⟨x', l', e', hx', -, hcell'⟩ := hbt k hkk
      have e1 := conv_bytes wr.drew x l e _ (rBytes_isB hx).1
      have e2 := conv_bytes wr.drew x' l' e' _ (rBytes_isB hx').1
      have HNX : Hid (L.take (k + 1) = L.take k ++ [L[k]]) := List.take_succ_eq_append_getElem hkl
      have HNK : Hid (K.take (k + 1) = K.take k ++ [K[k]]) := List.take_succ_eq_append_getElem hkk
      have HNE : Hid (L[k] ≠ K[k] → L ≠ K) := fun h e => h (by subst e; rfl)
      clear hat hbt hx hx' hAr hBr
      generalize L[k] = X at *
      generalize K[k] = Y at *
      go_wp2
      go_cut [27] (fun t wx => t = .bool (X != Y) ∧ wx = wr.drew)
      case first =>
        go_region_with fail
        all_goals (try go_wp2_with fail)
        all_goals go_meet
        all_goals exact ⟨rfl, rfl⟩
      case rest =>
        obtain ⟨rfl, rfl⟩ := hcut
        clear e1 e2 hcell hcell'
        by_cases hxy : X = Y
        · have hne : (X != Y) = false := by rw [hxy]; exact bne_self_eq_false _
          have HXY : Hid _ := hxy
          rw [hne]
          clear hxy hne
          go_wp2
          go_roundw
          case rel => exact ⟨k + 1, by omega, by go_num, by unfold Hid; rw [HNX.out, HNK.out, HK.out, HXY.out], bel.drew⟩
          case measure => simp [intOf]; omega
        · have hne : (X != Y) = true := bne_iff_ne.2 hxy
          have HF : Hid ((L == K) = false) := beq_eq_false_iff_ne.2 (HNE.out hxy)
          rw [hne]
          clear hxy hne
          go_wp2
          go_ret
          exact ⟨by rw [HF.out]; rfl, bel.drew⟩
    · obtain rfl : k = n := by omega
      have e : L = K := by
        have := HK.out
        rwa [List.take_of_length_le (by rw [HN.out]; exact Nat.le_refl _), List.take_of_length_le (by rw [HM.out]; exact Nat.le_refl _)] at this
      have E : Hid _ := e
      clear e
      go_wp2
      go_ret
      exact ⟨by rw [E.out]; simp, bel⟩
end Go.Proofs.YtgbbkmdfangmmaaGreat
namespace Go.Proofs.YtgbbkmdfangmmaaGreat
set_option maxRecDepth 20000
open Go.RowKit
set_option linter.unusedVariables false
namespace Tr
def getO (l : List Itm) (key : UInt64) : Option UInt64 := (floorOf l key).bind fun x => if x.1 = key then some x.2 else none
end Tr
set_option maxHeartbeats 1000000 in
theorem tget_u (w : World) (P : Nat → Prop) (s : Pgs) (root : Int) (key : UInt64) (pa : Option Addr) (pc : Nat) (hR : rSectors.rd w P [.slice pa s.length pc] s) (h0 : -9223372036854775808 ≤ root) (h1 : root ≤ 9223372036854775807) :
    Calls Tryz.prog 16 #[.agg #[.slice pa s.length pc], .int .i64 root, .int .u64 (key.toNat : Int)] w fun e w' => e = .returned (.tuple #[.int .u64 (((Tr.getO (Tr.readI s root) key).getD 0).toNat : Int), .bool (Tr.getO (Tr.readI s root) key).isSome, .int .i64 (Tr.readE s root)]) ∧ Below w.heap.size w w' := by
  obtain ⟨wa, hwa, Va, ba, za⟩ := boxedRow w 26 [.slice pa s.length pc]
  have a0 := Va.cell (j := 0) rfl
  have BA : Hid (Below w.heap.size w wa) := ba
  have HC : Hid _ := tfloor_u wa P s root key pa pc (Rep.below hR ba) h0 h1
  have HE0 : Hid (∀ x, Tr.floorOf (Tr.readI s root) key = some x → Tr.readE s root = 0) := fun x hx => by
    by_cases h : Tr.readE s root = 0
    · exact h
    · rw [Tr.readI_bad h] at hx; cases hx
  clear Va ba za hR
  go_enter Tryz.func16, Tryz.ntmps16
  go_wp2_with fail
  go_at_call 10
  refine Calls.mono HC.out ?_
  rintro e w2 ⟨rfl, b2⟩
  have B2 : Hid (Below w.heap.size w w2) := on BA.out b2
  cases hf : Tr.floorOf (Tr.readI s root) key with
  | none =>
    obtain ⟨w4, hw4, V4, b4, z4⟩ := boxedRow w2 29 [.int .u64 0, .int .u64 0]
    have B4 : Hid (Below w.heap.size w w4) := on B2.out b4
    have HG : Hid (Tr.getO (Tr.readI s root) key = none) := by unfold Hid Tr.getO; rw [hf]; rfl
    rw [show (((none : Option Itm).getD (0, 0)).1.toNat : Int) = 0 from rfl, show (((none : Option Itm).getD (0, 0)).2.toNat : Int) = 0 from rfl, show (none : Option Itm).isSome = false from rfl]
    obtain ⟨c0, c1⟩ := V4.two
    have f0 := V4.frozen 0
    have f1 := V4.frozen 1
    have HS : Hid (w.heap.size ≤ w2.heap.size) := B2.out.size
    obtain ⟨w5, hw5, V5, K5⟩ := V4.whole2 (.int .u64 0) (.int .u64 0)
    obtain ⟨d0, d1⟩ := V5.two
    have B5 : Hid (Below w.heap.size w w5) := Kept.belowOf B4.out K5 HS.out
    clear V4 b4 z4 b2 hf V5 K5
    go_wp2
    go_ret3
    exact ⟨by rw [HG.out]; rfl, B5.out⟩
  | some x =>
    have hE := HE0.out x hf
    obtain ⟨w4, hw4, V4, b4, z4⟩ := boxedRow w2 29 [.int .u64 (x.1.toNat : Int), .int .u64 (x.2.toNat : Int)]
    have B4 : Hid (Below w.heap.size w w4) := on B2.out b4
    obtain ⟨c0, c1⟩ := V4.two
    have HE : Hid _ := hE
    simp only [Option.getD_some, Option.isSome_some, hE]
    by_cases hk : x.1 = key
    · obtain ⟨xk, xv⟩ := x
      simp only at hk
      subst hk
      have hk : ((xk, xv) : Itm).1 = xk := rfl
      have HG : Hid (Tr.getO (Tr.readI s root) xk = some xv) := by unfold Hid Tr.getO; rw [hf]; simp
      clear V4 b4 z4 b2 hf hk hE
      go_wp2
      go_ret3
      exact ⟨by rw [HG.out, HE.out]; rfl, B4.out⟩
    · have HG : Hid (Tr.getO (Tr.readI s root) key = none) := by unfold Hid Tr.getO; rw [hf]; simp [hk]
      have hne : ¬ (x.1.toNat : Int) = (key.toNat : Int) := fun e => hk (UInt64.toNat_inj.1 (by omega))
      have hz : ((x.1.toNat : Int) == (key.toNat : Int)) = false := beq_eq_false_iff_ne.2 hne
      clear V4 b4 z4 b2 hf hk hE
      go_wp2
      go_ret3
      exact ⟨by rw [HG.out, HE.out]; rfl, B4.out⟩
end Go.Proofs.YtgbbkmdfangmmaaGreat
namespace Go.Proofs.YtgbbkmdfangmmaaGreat
set_option maxRecDepth 20000
set_option linter.unusedVariables false
namespace Tr
theorem get_floor_some (l : List Itm) (key : UInt64) : (getO l key).isSome = ((floorOf l key).isSome && (((floorOf l key).getD (0, 0)).1 == key)) := by
  unfold getO
  cases floorOf l key with
  | none => rfl
  | some x =>
    by_cases h : x.1 = key
    · simp [h]
    · simp [h]
theorem get_floor_val (l : List Itm) (key : UInt64) : (getO l key).getD 0 = if (getO l key).isSome = true then ((floorOf l key).getD (0, 0)).2 else 0 := by
  unfold getO
  cases floorOf l key with
  | none => rfl
  | some x =>
    by_cases h : x.1 = key
    · simp [h]
    · simp [h]
theorem rangeL_few (s : Pgs) (root : Int) (key : UInt64) (m : Int) : (rangeL s root key m).length ≤ 6144 := by
  unfold rangeL
  split
  · exact Nat.le_trans (rangeOf_len _ _ _) (readI_few s root)
  · exact Nat.zero_le _
theorem numbers_few (m : List Bool) : (numbers m).length ≤ m.length := by
  unfold numbers
  rw [List.length_map]
  refine Nat.le_trans (List.length_filter_le _ _) ?_
  rw [List.length_range]
  exact Nat.le_refl _
theorem readP_few (s : Pgs) (root : Int) : (readP s root).length ≤ s.length := by
  by_cases h : readE s root = 0
  · obtain ⟨-, ⟨-, -, e⟩ | ⟨-, d, -, -, e⟩⟩ := read_zero h
    · rw [e]; exact Nat.zero_le _
    · rw [e]
      refine Nat.le_trans (numbers_few _) ?_
      rw [mark_length]
      simp [none_]
  · unfold readP
    rw [if_neg (fun k => h k.1)]
    exact Nat.zero_le _
end Tr
end Go.Proofs.YtgbbkmdfangmmaaGreat
