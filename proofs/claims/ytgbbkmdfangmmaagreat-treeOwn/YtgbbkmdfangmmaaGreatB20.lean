/-
  Facts that the proof rests on, part 21. Conditions: those that each of them names.
-/
import Derived.ChangeOld
import Derived.Deep.DeepCutAuto
import Derived.Deep.RegionHeldLaw
import Derived.OpenShut
import Derived.ProofKit
import Derived.ShutString
import Derived.SizedLaws
import Derived.Test.YtgbbkmdfangmmaaGreatRows
import Derived.Test.YtgbbkmdfangmmaaGreatB01
import Derived.Test.YtgbbkmdfangmmaaGreatB02
import Derived.Test.YtgbbkmdfangmmaaGreatB03
import Derived.Test.YtgbbkmdfangmmaaGreatB04
import Derived.Test.YtgbbkmdfangmmaaGreatB06
import Derived.Test.YtgbbkmdfangmmaaGreatB07
import Derived.Test.YtgbbkmdfangmmaaGreatB11
import Derived.Test.YtgbbkmdfangmmaaGreatB19
namespace Go.Proofs.YtgbbkmdfangmmaaGreat
set_option maxRecDepth 20000
open Go.ChangeShapes Go.WideShapes Go.ChangeAt Go.RowKit
theorem own : ownKnob Tryz.prog.godebug = none := by kernel_rfl
theorem laidOut : laidOutB Tryz.prog = true := by kernel_rfl
theorem opens_octets : Opens Tryz.prog 72 rBytes := opens_list Tryz.underlying72 (by kernel_rfl) (by kernel_rfl) (opens_byte Tryz.underlying5)
theorem opens_sectors : Opens Tryz.prog 22 rSectors := opens_list Tryz.underlying22 (by kernel_rfl) (by kernel_rfl) opens_octets
theorem opens_pages : Opens Tryz.prog 24 rSectors :=
  opens_struct Tryz.underlying24 (by kernel_rfl) (opens_last rfl (by kernel_rfl) opens_sectors)
theorem opens_item : Opens Tryz.prog 29 rItm :=
  opens_struct Tryz.underlying29 (by kernel_rfl) (opens_field rfl (by kernel_rfl) (opens_u64 Tryz.underlying25) (opens_last rfl (by kernel_rfl) (opens_u64 Tryz.underlying25)))
theorem rPages_rd {w : World} {P : Nat → Prop} {cs : List Value} {s : List (List UInt8)} (h : rSectors.rd w P cs s) : ∃ a n c, cs = [.slice a n c] ∧ s.length = n ∧ n ≤ 5864062014634 := by
  obtain ⟨a, n, c, e, h1, -, -, h4, -⟩ := h
  have h5 : n * 24 ≤ 140737488351232 := h4
  exact ⟨a, n, c, e, h1, by omega⟩
end Go.Proofs.YtgbbkmdfangmmaaGreat
namespace Go.Proofs.YtgbbkmdfangmmaaGreat
set_option maxRecDepth 20000
open Go.RowKit
set_option linter.unusedVariables false
namespace Tr
def putE (x : Itm) (s : Pgs) (root : Int) : Int := match putR x s root with | .error y => y | .ok _ => 0
def putS (x : Itm) (s : Pgs) (root : Int) : Pgs := match putR x s root with | .error _ => [] | .ok r => r.1
def putQ (x : Itm) (s : Pgs) (root : Int) : Int := match putR x s root with | .error _ => 0 | .ok r => r.2
end Tr
theorem rSectors_none (w : World) (P : Nat → Prop) : rSectors.rd w P [.slice none 0 0] [] := ⟨none, 0, 0, rfl, rfl, Nat.zero_le _, fun _ => rfl, by decide, fun x hx j hj => by cases hj⟩
theorem put8_u (w : World) (P : Nat → Prop) (s : Pgs) (root : Int) (x : Itm) (pa : Option Addr) (n pc : Nat) (hR : rSectors.rd w P [.slice pa n pc] s) (h0 : -9223372036854775808 ≤ root) (h1 : root ≤ 9223372036854775807) :
    Calls Tryz.prog 24 #[.agg #[.slice pa n pc], .int .i64 root, .agg #[.int .u64 (x.1.toNat : Int), .int .u64 (x.2.toNat : Int)]] w fun e w' => ∃ a m c, e = .returned (.tuple #[.agg #[.slice a m c], .int .i64 (Tr.putQ x s root), .int .i64 (Tr.putE x s root)]) ∧ rSectors.rd w' (fun b => w.heap.size ≤ b) [.slice a m c] (Tr.putS x s root) ∧ Below w.heap.size w w' := by
  obtain rfl : n = s.length := (rList_len hR).1.symm
  refine (Put_u w P s root x pa pc hR h0 h1).mono ?_
  rintro e w' ⟨b, hno, hyes⟩
  unfold Tr.putQ Tr.putE Tr.putS
  cases h : Tr.putR x s root with
  | error y =>
    rw [h] at hno
    exact ⟨none, 0, 0, hno y rfl, rSectors_none _ _, b⟩
  | ok r =>
    rw [h] at hyes
    obtain ⟨a, c, h1, h2, -⟩ := hyes r.1 r.2 rfl
    exact ⟨a, _, c, h1, h2, b⟩
set_option maxHeartbeats 1000000 in
theorem of8_u (w : World) (P : Nat → Prop) (s : Pgs) (a : Option Addr) (n c : Nat) (hR : rSectors.rd w P [.slice a n c] s) :
    Calls Tryz.prog 9 #[.agg #[.slice a n c]] w fun e w' => ∃ b d, e = .returned (.agg #[.slice b n d]) ∧ rSectors.rd w' (fun k => w.heap.size ≤ k) [.slice b n d] s ∧ Below w.heap.size w w' := by
  obtain ⟨w1, hw1, V1, b1, z1⟩ := boxedRow w 24 [.slice a n c]
  obtain ⟨w2, hw2, V2, b2, z2⟩ := boxedRow w1 26 [.slice none 0 0]
  have B2 : Hid (Below w.heap.size w w2) := on b1 b2
  have HV2 : Hid (Row w2 w1.heap.size 26 [.slice none 0 0]) := V2
  have HZ : Hid (w.heap.size ≤ w1.heap.size) := b1.size
  have HZ1 : Hid (w1.heap.size = w.heap.size + 1) := z1
  have HC : Hid _ := copyList_r w2 P a n c s (Rep.below hR B2.out)
  have c0 := (V1.below b2).cell (j := 0) rfl
  clear V1 V2 b1 b2 z1 z2 hR
  go_enter Tryz.func9, Tryz.ntmps9
  go_wp2_with fail
  go_at_call 33
  refine Calls.mono HC.out ?_
  rintro e w3 ⟨b, d, rfl, hr, b3⟩
  have HV3 : Hid (Row w3 w1.heap.size 26 [.slice none 0 0]) := HV2.out.below b3
  have HR3 : Hid _ := hr
  have B3 : Hid (Below w.heap.size w w3) := on B2.out b3
  have HS2 : Hid (w1.heap.size < w2.heap.size) := HV2.out.lt
  have e0 := HV3.out.cell (j := 0) rfl
  have e1 := HV3.out.frozen 0
  clear hr b3
  go_wp2
  have hk : Kept (· ≠ w1.heap.size) w3 (w3.setCell ⟨w1.heap.size, 0, none⟩ (.slice b n d)) := (Kept.refl _ w3).setCell (p := ⟨w1.heap.size, 0, none⟩) (fun h => h rfl) _
  refine bodyPost_ret (results_row (xs := [.slice b n d]) rfl (by first | rfl | (simp only [HZ1.out]; rfl)) (HV3.out.set 0 _) Tryz.underlying26 rfl (by kernel_rfl)) rfl ⟨b, d, rfl, ?_, Kept.belowOf B3.out hk (by have := HZ.out; omega)⟩
  exact rSectors.weaken (Rep.kept HR3.out hk (fun q hq _ => by have h1 : w2.heap.size ≤ q := hq; have h2 := HS2.out; show q ≠ w1.heap.size; omega)) (fun q hq _ => by have h1 : w2.heap.size ≤ q := hq; have h2 := HS2.out; have h3 := HZ.out; show w.heap.size ≤ q; omega)
end Go.Proofs.YtgbbkmdfangmmaaGreat
namespace Go.Proofs.YtgbbkmdfangmmaaGreat
set_option maxRecDepth 20000
open Go.RowKit
set_option linter.unusedVariables false
def rFree : Rep (List UInt8) where
  size := 1
  bytes := 24
  rd w P cs l := rBytes.rd w P cs l ∧ ∀ a n c, cs = [.slice a n c] → ∀ x, a = some x → ∀ j, j < n → w.frozen? (x.add j) = false
  len h := rBytes.len h.1
  one h := rBytes.one h.1
  keep := by
    rintro w w' P cs l ⟨h1, h2⟩ hk
    refine ⟨rBytes.keep h1 hk, fun a n c e x hx j hj => ?_⟩
    have h3 := h2 a n c e x hx j hj
    obtain ⟨a', n', c', e', g1, g2, g3, g4, g5⟩ := h1
    rw [e] at e'
    simp only [List.cons.injEq, Value.slice.injEq, and_true] at e'
    obtain ⟨rfl, rfl, rfl⟩ := e'
    have hb := Elems.block (by decide) (g5 x hx) j (by omega)
    obtain ⟨hp, _⟩ := g5 x hx j (by omega)
    rw [World.frozen?_of_block (w := w) (w' := w') (a := x.add j) (by rw [add_block]; exact hk _ hp hb)]
    exact h3
  weaken := by
    rintro w P P' cs l ⟨h1, h2⟩ hk
    exact ⟨rBytes.weaken h1 hk, h2⟩
def rFrees : Rep (List (List UInt8)) := rList rFree (by decide)
theorem rList_map {α : Type} {A B : Rep α} {hs : 0 < A.size} {hs' : 0 < B.size} (h1 : A.size = B.size) (h2 : A.bytes = B.bytes) (h : ∀ w P cs x, A.rd w P cs x → B.rd w P cs x) {w : World} {P : Nat → Prop} {cs : List Value} {l : List α} (hl : (rList A hs).rd w P cs l) : (rList B hs').rd w P cs l := by
  obtain ⟨a, n, c, rfl, g1, g2, g3, g4, g5⟩ := hl
  refine ⟨a, n, c, rfl, g1, g2, g3, by rw [← h2]; exact g4, fun x hx j hj => ?_⟩
  obtain ⟨hp, cj, k1, k2⟩ := g5 x hx j hj
  exact ⟨hp, cj, h _ _ _ _ k1, by rw [← h1]; exact k2⟩
theorem frees_sectors {w : World} {P : Nat → Prop} {cs : List Value} {l : List (List UInt8)} (h : rFrees.rd w P cs l) : rSectors.rd w P cs l := rList_map (A := rFree) (B := rBytes) rfl rfl (fun _ _ _ _ h => And.left h) h
end Go.Proofs.YtgbbkmdfangmmaaGreat
namespace Go.Proofs.YtgbbkmdfangmmaaGreat
set_option maxRecDepth 20000
open Go.RowKit
set_option linter.unusedVariables false
theorem elem_frees : ElemOf Tryz.prog 22 72 rFree := elemOf (z := .slice none 0 0) Tryz.underlying22 (by kernel_rfl) rfl rfl rfl (by decide)
theorem rFree_owned {w : World} {base n c : Nat} {a : Option Addr} {l : List UInt8} (h : w.ownsRow base 5 1 (.slice a n c) n (cellsOf l)) (hn : n ≤ 140737488351232) : rFree.rd w (fun b => base ≤ b) [.slice a n c] l := by
  refine ⟨rBytes_owned h hn, fun a' n' c' e x hx j hj => ?_⟩
  simp only [List.cons.injEq, Value.slice.injEq, and_true] at e
  obtain ⟨rfl, rfl, rfl⟩ := e
  rcases h.2 with ⟨e1, e2⟩ | ⟨g, cap, cur, e1, e2, e3, _⟩
  · omega
  · simp only [Value.slice.injEq] at e1
    obtain ⟨rfl, _, rfl⟩ := e1
    cases hx
    rw [Addr.add_lit]
    simp [World.frozen?, e3]
theorem copy_f (w : World) (P : Nat → Prop) (a : Option Addr) (n c : Nat) (l : List UInt8) (h : rBytes.rd w P [.slice a n c] l) :
    Calls Tryz.prog 54 #[.slice a n c] w fun e w' => ∃ b d, e = .returned (.slice b n d) ∧ rFree.rd w' (fun k => w.heap.size ≤ k) [.slice b n d] l ∧ Below w.heap.size w w' := by
  obtain ⟨h1, h2, h3, h4⟩ := rBytes_isB h
  refine (copy_u w a n c l (by omega) h3 h1).mono ?_
  rintro e w' ⟨b, d, rfl, ho, hb⟩
  exact ⟨b, d, rfl, rFree_owned ho h4, hb⟩
set_option maxHeartbeats 800000 in
theorem copyList_f (w : World) (P : Nat → Prop) (a : Option Addr) (n c : Nat) (L : List (List UInt8)) (h : rSectors.rd w P [.slice a n c] L) :
    Calls Tryz.prog 33 #[.slice a n c] w fun e w' => ∃ b d, e = .returned (.slice b n d) ∧ rFrees.rd w' (fun k => w.heap.size ≤ k) [.slice b n d] L ∧ Below w.heap.size w w' := by
  have hl : L.length = n ∧ n ≤ 5864062014634 := by
    obtain ⟨a', n', c', e, h1, _, _, h4, _⟩ := h
    simp only [List.cons.injEq, Value.slice.injEq, and_true] at e
    obtain ⟨rfl, rfl, rfl⟩ := e
    have h5 : n * 24 ≤ 140737488351232 := h4
    exact ⟨h1, by omega⟩
  obtain ⟨hn, hn2⟩ := hl
  have HN : Hid _ := hn
  clear hn
  have H0 : Owns rFree 72 w w.heap.size (.slice none 0 0) (L.take 0) := by rw [List.take_zero]; exact Owns.nil _ _ _ _
  go_enter Tryz.func33, Tryz.ntmps33
  go_wp2
  go_loopw [3, 4] (fun s i wr => ∃ (k : Nat) (M : List (List UInt8)), k ≤ n ∧ i = .int .i64 k ∧ M.length = k ∧ Hid (M = L.take k) ∧ Hid (Owns rFree 72 wr w.heap.size s M) ∧ Below w.heap.size w wr) (fun _ i _ => n - (intOf i).toNat)
  case atStart => exact ⟨0, _, Nat.zero_le _, rfl, by simp, rfl, H0, Below.refl _ _⟩
  case round =>
    obtain ⟨k, M, hk, rfl, hml, HMk, O, bel⟩ := hrel
    clear H0
    by_cases hlt : k < n
    · have hAr := Rep.below h bel
      obtain ⟨g, off, rfl, -, hgl, hat⟩ := rLists_at hAr (by omega)
      have hkl : k < L.length := by rw [HN.out]; exact hlt
      obtain ⟨x, l, e, hx, hl, hcell⟩ := hat k hkl
      have HNX : Hid (M ++ [L[k]] = L.take (k + 1)) := by unfold Hid; rw [HMk.out, List.take_succ_eq_append_getElem hkl]
      have hz : w.heap.size ≤ wr.heap.size := bel.size
      have hok : Hid ((k + 1) * 24 ≤ 140737488355328 ∧ k + 1 ≤ maxLen) := ⟨by omega, by unfold maxLen; omega⟩
      clear hat hl hAr
      generalize L[k] = X at *
      go_wp2_with (first
        | (go_at_call 54
           refine (copy_f _ _ x l e _ hx).mono ?_
           rintro e w5 ⟨b5, d5, rfl, hr5, bb5⟩
           have hz5 : w.heap.size ≤ (w5.alloc (.cells #[.slice b5 l d5] 72)).heap.size := by have := bb5.size; simp only [World.size_alloc]; omega)
        | (at_builtin
           (refine append_rep elem_frees rfl _ _ rfl w.heap.size _ M rfl ((O.out.below bb5).below ((Below.refl _ _).alloc (Nat.le_refl _) _)) ⟨w5.heap.size, 0, none⟩ [.slice b5 l d5] X rfl (cell_one_new _ _ _) (O.out.elem hz hr5 (fun b hb => hb) _) (by rw [hml]; exact hok.out.1) (by rw [hml]; exact hok.out.2) hz5 ?_; intro b6 d6 w6 ho6 g6; rw [hml] at ho6)))
      go_roundw
      case rel => exact ⟨k + 1, M ++ [X], by omega, by go_num, by simp [hml], HNX, ho6, ((on bel bb5).alloc (by have := bb5.size; omega) _).grown g6 hz5 (fun k hk => (O.out.row k hk).1)⟩
      case measure => simp [intOf]; omega
    · obtain rfl : k = n := by omega
      go_wp2
      go_ret
      rw [List.take_of_length_le (by rw [HN.out]; exact Nat.le_refl _)] at HMk
      obtain ⟨a', c', e1, e2⟩ := Owns.rd (hs := by decide) O.out (by rw [hml]; show k * 24 ≤ _; omega)
      rw [hml, HMk.out] at e2
      rw [hml] at e1
      exact ⟨a', c', by rw [← e1]; rfl, e2, bel⟩
end Go.Proofs.YtgbbkmdfangmmaaGreat
namespace Go.Proofs.YtgbbkmdfangmmaaGreat
set_option maxRecDepth 20000
open Go.RowKit
set_option linter.unusedVariables false
set_option maxHeartbeats 1000000 in
theorem of8F_u (w : World) (P : Nat → Prop) (s : Pgs) (a : Option Addr) (n c : Nat) (hR : rSectors.rd w P [.slice a n c] s) :
    Calls Tryz.prog 9 #[.agg #[.slice a n c]] w fun e w' => ∃ b d, e = .returned (.agg #[.slice b n d]) ∧ rFrees.rd w' (fun k => w.heap.size ≤ k) [.slice b n d] s ∧ Below w.heap.size w w' := by
  obtain ⟨w1, hw1, V1, b1, z1⟩ := boxedRow w 24 [.slice a n c]
  obtain ⟨w2, hw2, V2, b2, z2⟩ := boxedRow w1 26 [.slice none 0 0]
  have B2 : Hid (Below w.heap.size w w2) := on b1 b2
  have HV2 : Hid (Row w2 w1.heap.size 26 [.slice none 0 0]) := V2
  have HZ : Hid (w.heap.size ≤ w1.heap.size) := b1.size
  have HZ1 : Hid (w1.heap.size = w.heap.size + 1) := z1
  have HC : Hid _ := copyList_f w2 P a n c s (Rep.below hR B2.out)
  have c0 := (V1.below b2).cell (j := 0) rfl
  clear V1 V2 b1 b2 z1 z2 hR
  go_enter Tryz.func9, Tryz.ntmps9
  go_wp2_with fail
  go_at_call 33
  refine Calls.mono HC.out ?_
  rintro e w3 ⟨b, d, rfl, hr, b3⟩
  have HV3 : Hid (Row w3 w1.heap.size 26 [.slice none 0 0]) := HV2.out.below b3
  have HR3 : Hid _ := hr
  have B3 : Hid (Below w.heap.size w w3) := on B2.out b3
  have HS2 : Hid (w1.heap.size < w2.heap.size) := HV2.out.lt
  have e0 := HV3.out.cell (j := 0) rfl
  have e1 := HV3.out.frozen 0
  clear hr b3
  go_wp2
  have hk : Kept (· ≠ w1.heap.size) w3 (w3.setCell ⟨w1.heap.size, 0, none⟩ (.slice b n d)) := (Kept.refl _ w3).setCell (p := ⟨w1.heap.size, 0, none⟩) (fun h => h rfl) _
  refine bodyPost_ret (results_row (xs := [.slice b n d]) rfl (by first | rfl | (simp only [HZ1.out]; rfl)) (HV3.out.set 0 _) Tryz.underlying26 rfl (by kernel_rfl)) rfl ⟨b, d, rfl, ?_, Kept.belowOf B3.out hk (by have := HZ.out; omega)⟩
  exact rFrees.weaken (Rep.kept HR3.out hk (fun q hq _ => by have h1 : w2.heap.size ≤ q := hq; have h2 := HS2.out; show q ≠ w1.heap.size; omega)) (fun q hq _ => by have h1 : w2.heap.size ≤ q := hq; have h2 := HS2.out; have h3 := HZ.out; show w.heap.size ≤ q; omega)
end Go.Proofs.YtgbbkmdfangmmaaGreat
namespace Go.Proofs.YtgbbkmdfangmmaaGreat
set_option maxRecDepth 20000
open Go.RowKit
set_option linter.unusedVariables false
structure Spoilt (S : Nat → Prop) (w w' : World) : Prop where
  os : w'.os = w.os
  tape : w'.tape = w.tape
  output : w'.output = w.output
  size : w'.heap.size = w.heap.size
  block : ∀ b, ¬ S b → w'.heap[b]? = w.heap[b]?
  u8 : ∀ a n, w.cell? a = some (.int .u8 n) → ∃ n', w'.cell? a = some (.int .u8 n')
  other : ∀ a v, w.cell? a = some v → (∀ n, v ≠ .int .u8 n) → w'.cell? a = some v
  frozen : ∀ a, w'.frozen? a = w.frozen? a
theorem Spoilt.refl (S : Nat → Prop) (w : World) : Spoilt S w w := ⟨rfl, rfl, rfl, rfl, fun _ _ => rfl, fun _ n h => ⟨n, h⟩, fun _ _ h _ => h, fun _ => rfl⟩
theorem Spoilt.trans {S : Nat → Prop} {a b c : World} (h : Spoilt S a b) (k : Spoilt S b c) : Spoilt S a c :=
  ⟨k.os.trans h.os, k.tape.trans h.tape, k.output.trans h.output, k.size.trans h.size, fun i hi => (k.block i hi).trans (h.block i hi),
   fun x n hx => by obtain ⟨n', h1⟩ := h.u8 x n hx; exact k.u8 x n' h1, fun x v hx hv => k.other x v (h.other x v hx hv) hv, fun x => (k.frozen x).trans (h.frozen x)⟩
theorem Spoilt.kept {S : Nat → Prop} {w w' : World} (h : Spoilt S w w') : Kept (fun b => ¬ S b) w w' := ⟨h.os, h.tape, h.output, by rw [h.size]; exact Nat.le_refl _, fun b hb => h.block b hb⟩
theorem Spoilt.set {S : Nat → Prop} {w : World} {p : Addr} {n : Int} (hp : w.cell? p = some (.int .u8 n)) (hs : S p.block) (n' : Int) : Spoilt S w (w.setCell p (.int .u8 n')) := by
  refine ⟨rfl, rfl, rfl, by simp, fun b hb => Below.heap_setCell _ _ _ _ (fun e => hb (e ▸ hs)), fun a m ha => ?_, fun a v ha hv => ?_, fun a => World.frozen?_setCell ..⟩
  · by_cases e : a = p
    · subst e; exact ⟨n', World.cell?_setCell_same _ _ _ ha⟩
    · exact ⟨m, by rw [World.cell?_setCell_other _ _ _ _ (fun h => e h.symm)]; exact ha⟩
  · by_cases e : a = p
    · subst e; rw [hp] at ha; cases ha; exact absurd rfl (hv n)
    · rw [World.cell?_setCell_other _ _ _ _ (fun h => e h.symm)]; exact ha
def Octs (S : Nat → Prop) (w : World) (a : Option Addr) (n : Nat) : Prop :=
  n = 0 ∨ ∃ b off, a = some ⟨b, off, none⟩ ∧ S b ∧ ∀ j, j < n → (∃ m, w.cell? ⟨b, off + j, none⟩ = some (.int .u8 m)) ∧ w.frozen? ⟨b, off + j, none⟩ = false
theorem Octs.spoilt {S : Nat → Prop} {w w' : World} {a : Option Addr} {n : Nat} (h : Octs S w a n) (k : Spoilt S w w') : Octs S w' a n := by
  rcases h with h | ⟨b, off, h1, h2, h3⟩
  · exact .inl h
  · exact .inr ⟨b, off, h1, h2, fun j hj => ⟨by obtain ⟨m, hm⟩ := (h3 j hj).1; exact k.u8 _ _ hm, by rw [k.frozen]; exact (h3 j hj).2⟩⟩
theorem octs_of {w : World} {P : Nat → Prop} {a : Option Addr} {n c : Nat} {l : List UInt8} (h : rFree.rd w P [.slice a n c] l) : Octs P w a n := by
  have hl := (rBytes_isB h.1).1.1
  by_cases h0 : n = 0
  · exact .inl h0
  · obtain ⟨b, off, e1, e2, e3, e4⟩ := rList_at (A := rByte) h.1 (by omega)
    subst e1
    refine .inr ⟨b, off, rfl, e2, fun j hj => ⟨?_, ?_⟩⟩
    · obtain ⟨cj, g1, g2⟩ := e4 j (by omega)
      have g1' : cj = [.int .u8 (l[j].toNat : Int)] := g1
      subst g1'
      have := g2 0 _ rfl
      rw [show j * rByte.size + 0 = j from by show j * 1 + 0 = j; omega] at this
      exact ⟨_, this⟩
    · have := h.2 _ _ _ rfl _ rfl j hj
      rwa [Addr.add_lit] at this
set_option maxHeartbeats 800000 in
theorem spoil_s (w : World) (S : Nat → Prop) (a : Option Addr) (n c : Nat) (hn : n ≤ 140737488355328) (h : Octs S w a n) :
    Calls Tryz.prog 53 #[.slice a n c] w fun e w' => e = .returned (.tuple #[]) ∧ Spoilt S w w' := by
  have H : Hid (Octs S w a n) := h
  clear h
  go_enter Tryz.func53, Tryz.ntmps53
  go_wp2
  go_loopw [2] (fun i wr => ∃ k : Nat, k ≤ n ∧ i = .int .i64 k ∧ Hid (Spoilt S w wr)) (fun i _ => n - (intOf i).toNat)
  case atStart => exact ⟨0, Nat.zero_le _, rfl, Spoilt.refl _ _⟩
  case round =>
    obtain ⟨k, hk, rfl, SP⟩ := hrel
    by_cases hlt : k < n
    · rcases Octs.spoilt H.out SP.out with h0 | ⟨b, off, rfl, hs, hat⟩
      · omega
      · obtain ⟨⟨m, hm⟩, hf⟩ := hat k hlt
        have HC : Hid _ := hm
        have HS : Hid _ := hs
        clear hat hs
        go_wp2
        go_roundw
        case rel => exact ⟨k + 1, by omega, by go_num, SP.out.trans (Spoilt.set HC.out HS.out _)⟩
        case measure => simp [intOf]; omega
    · go_wp2
      go_end0
      exact ⟨rfl, SP.out⟩
def OctsAll (S : Nat → Prop) (w : World) (a : Option Addr) (n : Nat) : Prop :=
  n = 0 ∨ ∃ b off, a = some ⟨b, off, none⟩ ∧ ∀ j, j < n → ∃ x m d, w.cell? ⟨b, off + j, none⟩ = some (.slice x m d) ∧ m ≤ 140737488355328 ∧ Octs S w x m
theorem OctsAll.spoilt {S : Nat → Prop} {w w' : World} {a : Option Addr} {n : Nat} (h : OctsAll S w a n) (k : Spoilt S w w') : OctsAll S w' a n := by
  rcases h with h | ⟨b, off, h1, h3⟩
  · exact .inl h
  · exact .inr ⟨b, off, h1, fun j hj => by obtain ⟨x, m, d, g1, g2, g3⟩ := h3 j hj; exact ⟨x, m, d, k.other _ _ g1 (fun n e => by cases e), g2, g3.spoilt k⟩⟩
theorem octsAll_of {w : World} {P : Nat → Prop} {a : Option Addr} {n c : Nat} {L : List (List UInt8)} (h : rFrees.rd w P [.slice a n c] L) : OctsAll P w a n := by
  by_cases h0 : n = 0
  · exact .inl h0
  · have hl := (rSectors_len (frees_sectors h)).1
    obtain ⟨b, off, e1, -, -, e4⟩ := rList_at h (by omega)
    refine .inr ⟨b, off, e1, fun j hj => ?_⟩
    obtain ⟨cj, g1, g2⟩ := e4 j (by omega)
    have g1' := g1
    obtain ⟨⟨x, m, d, rfl, -⟩, -⟩ := g1
    have := g2 0 (.slice x m d) rfl
    rw [show j * rFree.size + 0 = j from by show j * 1 + 0 = j; omega] at this
    exact ⟨x, m, d, this, by have := (rBytes_isB g1'.1).2.2.2; omega, octs_of g1'⟩
set_option maxHeartbeats 800000 in
theorem spoilList_s (w : World) (S : Nat → Prop) (a : Option Addr) (n c : Nat) (hn : n ≤ 5864062014634) (h : OctsAll S w a n) :
    Calls Tryz.prog 32 #[.slice a n c] w fun e w' => e = .returned (.tuple #[]) ∧ Spoilt S w w' := by
  have H : Hid (OctsAll S w a n) := h
  clear h
  go_enter Tryz.func32, Tryz.ntmps32
  go_wp2
  go_loopw [2] (fun i wr => ∃ k : Nat, k ≤ n ∧ i = .int .i64 k ∧ Hid (Spoilt S w wr)) (fun i _ => n - (intOf i).toNat)
  case atStart => exact ⟨0, Nat.zero_le _, rfl, Spoilt.refl _ _⟩
  case round =>
    obtain ⟨k, hk, rfl, SP⟩ := hrel
    by_cases hlt : k < n
    · rcases OctsAll.spoilt H.out SP.out with h0 | ⟨b, off, rfl, hat⟩
      · omega
      · obtain ⟨x, m, d, hc, hm, ho⟩ := hat k hlt
        have HO : Hid _ := ho
        clear hat ho
        go_wp2_with (go_at_call 53; refine (spoil_s _ S x m d hm HO.out).mono ?_; rintro e w5 ⟨rfl, sp5⟩)
        go_roundw
        case rel => exact ⟨k + 1, by omega, by go_num, SP.out.trans sp5⟩
        case measure => simp [intOf]; omega
    · go_wp2
      go_end0
      exact ⟨rfl, SP.out⟩
end Go.Proofs.YtgbbkmdfangmmaaGreat
namespace Go.Proofs.YtgbbkmdfangmmaaGreat
set_option maxRecDepth 20000
open Go.RowKit
set_option linter.unusedVariables false
set_option maxHeartbeats 800000 in
theorem sameList_r (w : World) (P Q : Nat → Prop) (a b : Option Addr) (n c m d : Nat) (L K : List (List UInt8)) (hA : rSectors.rd w P [.slice a n c] L) (hB : rSectors.rd w Q [.slice b m d] K) :
    Calls Tryz.prog 22 #[.slice a n c, .slice b m d] w fun e w' => e = .returned (.bool (L == K)) ∧ Below w.heap.size w w' := by
  obtain ⟨hn, hn2⟩ := rSectors_len hA
  obtain ⟨hm, hm2⟩ := rSectors_len hB
  have HN : Hid _ := hn
  have HM : Hid _ := hm
  clear hn hm
  by_cases hnm : n = m
  case neg =>
    have hf : (L == K) = false := beq_eq_false_iff_ne.2 (fun e => hnm (by rw [← HN.out, ← HM.out, e]))
    have hne : ((n : Int) != (m : Int)) = true := bne_iff_ne.2 (by omega)
    rw [hf]
    go_enter Tryz.func22, Tryz.ntmps22
    go_wp2
    go_ret
    exact ⟨rfl, Below.refl _ _⟩
  subst hnm
  go_enter Tryz.func22, Tryz.ntmps22
  go_wp2
  go_loopw [5] (fun i wr => ∃ k : Nat, k ≤ n ∧ i = .int .i64 k ∧ Hid (L.take k = K.take k) ∧ Below w.heap.size w wr) (fun i _ => n - (intOf i).toNat)
  case atStart => exact ⟨0, Nat.zero_le _, rfl, by unfold Hid; simp, Below.refl _ _⟩
  case round =>
    obtain ⟨k, hk, rfl, HK, bel⟩ := hrel
    by_cases hlt : k < n
    · have hAr := Rep.below hA bel
      have hBr := Rep.below hB bel
      obtain ⟨g, off, rfl, -, -, hat⟩ := rLists_at hAr (by omega)
      obtain ⟨g', off', rfl, -, -, hbt⟩ := rLists_at hBr (by omega)
      have hkl : k < L.length := by rw [HN.out]; exact hlt
      have hkk : k < K.length := by rw [HM.out]; exact hlt
      obtain ⟨x, l, e, hx, -, hcell⟩ := hat k hkl
      obtain ⟨x', l', e', hx', -, hcell'⟩ := hbt k hkk
      have e1 := conv_bytes wr.drew x l e _ (rBytes_isB hx).1
      have e2 := conv_bytes wr.drew x' l' e' _ (rBytes_isB hx').1
      have HNX : Hid (L.take (k + 1) = L.take k ++ [L[k]]) := List.take_succ_eq_append_getElem hkl
      have HNK : Hid (K.take (k + 1) = K.take k ++ [K[k]]) := List.take_succ_eq_append_getElem hkk
      have HNE : Hid (L[k] ≠ K[k] → L ≠ K) := fun h e => h (by subst e; rfl)
      clear hat hbt hx hx' hAr hBr
      generalize L[k] = X at *
      generalize K[k] = Y at *
      go_wp2
      go_cut [27] (fun t wx => t = .bool (X != Y) ∧ wx = wr.drew)
      case first =>
        go_region_with fail
        all_goals (try go_wp2_with fail)
        all_goals go_meet
        all_goals exact ⟨rfl, rfl⟩
      case rest =>
        obtain ⟨rfl, rfl⟩ := hcut
        clear e1 e2 hcell hcell'
        by_cases hxy : X = Y
        · have hne : (X != Y) = false := by rw [hxy]; exact bne_self_eq_false _
          have HXY : Hid _ := hxy
          rw [hne]
          clear hxy hne
          go_wp2
          go_roundw
          case rel => exact ⟨k + 1, by omega, by go_num, by unfold Hid; rw [HNX.out, HNK.out, HK.out, HXY.out], bel.drew⟩
          case measure => simp [intOf]; omega
        · have hne : (X != Y) = true := bne_iff_ne.2 hxy
          have HF : Hid ((L == K) = false) := beq_eq_false_iff_ne.2 (HNE.out hxy)
          rw [hne]
          clear hxy hne
          go_wp2
          go_ret
          exact ⟨by rw [HF.out]; rfl, bel.drew⟩
    · obtain rfl : k = n := by omega
      have e : L = K := by
        have := HK.out
        rwa [List.take_of_length_le (by rw [HN.out]; exact Nat.le_refl _), List.take_of_length_le (by rw [HM.out]; exact Nat.le_refl _)] at this
      have E : Hid _ := e
      clear e
      go_wp2
      go_ret
      exact ⟨by rw [E.out]; simp, bel⟩
end Go.Proofs.YtgbbkmdfangmmaaGreat
