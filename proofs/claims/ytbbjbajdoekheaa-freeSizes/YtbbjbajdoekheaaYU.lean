/-
  The landed free: spans sorted by where they begin; the library's sort by a function, as it lies in this program. Conditions: those that each contract names.
-/
import Derived.Test.YtbbjbajdoekheaaRows
import Derived.Shelf.SlSortCmp.WholeK
import Derived.Shelf.SlSortCmp.NoneTotal
import Derived.Test.YtbbjbajdoekheaaFBase
namespace Go.Proofs.Ytbbjbajdoekheaa
open Go.Shelf

def sortSpn_ren : Go.Shelf.Ren := ⟨fun | 6 => 56 | 15 => 63 | 14 => 62 | 28 => 73 | 29 => 74 | 20 => 65 | 21 => 66 | 22 => 67 | 23 => 68 | 24 => 69 | 25 => 70 | 26 => 71 | 27 => 72 | 46 => 75 | 47 => 76 | 48 => 77 | 49 => 78 | 50 => 79 | 57 => 80 | n => n, fun | 22 => 22 | 24 => 26 | 25 => 80 | 3 => 3 | 39 => 84 | 0 => 0 | 53 => 94 | 55 => 96 | 4 => 4 | 46 => 87 | 45 => 86 | 50 => 91 | 5 => 5 | 9 => 9 | 66 => 97 | 70 => 101 | 76 => 103 | 77 => 32 | n => n, fun | n => n⟩

theorem sortSpn : Go.Proofs.SlLaysF0.n6 Try.prog sortSpn_ren :=
  { mixed := by kernel_rfl,
    f6 := ⟨Try.f56.name, by decide, Try.func56.trans (congrArg some (by kernel_rfl))⟩,
    f14 := ⟨Try.f62.name, by decide, Try.func62.trans (congrArg some (by kernel_rfl))⟩,
    f15 := Try.func63.trans (congrArg some (by kernel_rfl)),
    f20 := ⟨Try.f65.name, by decide, Try.func65.trans (congrArg some (by kernel_rfl))⟩,
    f21 := ⟨Try.f66.name, by decide, Try.func66.trans (congrArg some (by kernel_rfl))⟩,
    f22 := ⟨Try.f67.name, by decide, Try.func67.trans (congrArg some (by kernel_rfl))⟩,
    f23 := ⟨Try.f68.name, by decide, Try.func68.trans (congrArg some (by kernel_rfl))⟩,
    f24 := ⟨Try.f69.name, by decide, Try.func69.trans (congrArg some (by kernel_rfl))⟩,
    f25 := ⟨Try.f70.name, by decide, Try.func70.trans (congrArg some (by kernel_rfl))⟩,
    f26 := ⟨Try.f71.name, by decide, Try.func71.trans (congrArg some (by kernel_rfl))⟩,
    f27 := ⟨Try.f72.name, by decide, Try.func72.trans (congrArg some (by kernel_rfl))⟩,
    f28 := Try.func73.trans (congrArg some (by kernel_rfl)),
    f29 := Try.func74.trans (congrArg some (by kernel_rfl)),
    f46 := ⟨Try.f75.name, by decide, Try.func75.trans (congrArg some (by kernel_rfl))⟩,
    f47 := Try.func76.trans (congrArg some (by kernel_rfl)),
    f48 := Try.func77.trans (congrArg some (by kernel_rfl)),
    f49 := ⟨Try.f78.name, by decide, Try.func78.trans (congrArg some (by kernel_rfl))⟩,
    f50 := ⟨Try.f79.name, by decide, Try.func79.trans (congrArg some (by kernel_rfl))⟩,
    f57 := ⟨Try.f80.name, by decide, Try.func80.trans (congrArg some (by kernel_rfl))⟩,
    t0 := Try.underlying0,
    a0 := Try.isAgg0,
    z0 := Try.sizeOf0,
    v0 := Try.zeroValue0,
    t3 := Try.underlying3,
    a3 := Try.isAgg3,
    z3 := Try.sizeOf3,
    v3 := Try.zeroValue3,
    t4 := Try.underlying4,
    a4 := Try.isAgg4,
    z4 := Try.sizeOf4,
    v4 := Try.zeroValue4,
    t5 := Try.underlying5,
    a5 := Try.isAgg5,
    z5 := Try.sizeOf5,
    v5 := Try.zeroValue5,
    t9 := Try.underlying9,
    a9 := Try.isAgg9,
    z9 := Try.sizeOf9,
    v9 := Try.zeroValue9,
    t22 := Try.underlying22,
    a22 := Try.isAgg22,
    z22 := Try.sizeOf22,
    v22 := Try.zeroValue22,
    t25 := Try.underlying80,
    a25 := Try.isAgg80,
    z25 := Try.sizeOf80,
    v25 := Try.zeroValue80,
    t39 := Try.underlying84,
    a39 := Try.isAgg84,
    z39 := Try.sizeOf84,
    v39 := Try.zeroValue84,
    t45 := Try.underlying86,
    a45 := Try.isAgg86,
    z45 := Try.sizeOf86,
    v45 := Try.zeroValue86,
    t46 := Try.underlying87,
    a46 := Try.isAgg87,
    z46 := Try.sizeOf87,
    v46 := Try.zeroValue87,
    t50 := Try.underlying91,
    a50 := Try.isAgg91,
    z50 := Try.sizeOf91,
    v50 := Try.zeroValue91,
    t53 := Try.underlying94,
    a53 := Try.isAgg94,
    z53 := Try.sizeOf94,
    v53 := Try.zeroValue94,
    t55 := Try.underlying96,
    a55 := Try.isAgg96,
    z55 := Try.sizeOf96,
    v55 := Try.zeroValue96,
    t66 := Try.underlying97,
    a66 := Try.isAgg97,
    z66 := Try.sizeOf97,
    v66 := Try.zeroValue97,
    t70 := Try.underlying101,
    a70 := Try.isAgg101,
    z70 := Try.sizeOf101,
    v70 := Try.zeroValue101,
    t76 := Try.underlying103,
    a76 := Try.isAgg103,
    z76 := Try.sizeOf103,
    v76 := Try.zeroValue103,
    t77 := Try.underlying32,
    a77 := Try.isAgg32,
    z77 := Try.sizeOf32,
    v77 := Try.zeroValue32 }

end Go.Proofs.Ytbbjbajdoekheaa

namespace Go.Proofs.Ytbbjbajdoekheaa
open Go.RowKit
set_option linter.unusedVariables false

def cmp3 (a b : Int) : Int := if a < b then -1 else if b < a then 1 else 0

set_option maxHeartbeats 800000 in
theorem cmp_u (w : World) (a b : Int) : Calls Try.prog 58 #[.int .i64 a, .int .i64 b] w fun e w' => e = .returned (.int .i64 (cmp3 a b)) ∧ w = w' := by
  by_cases h1 : a < b
  · have HE : Hid (cmp3 a b = -1) := if_pos h1
    go_enter Try.func58, Try.ntmps58
    go_wp2
    go_ret
    exact ⟨by rw [HE.out]; rfl, rfl⟩
  · by_cases h2 : b < a
    · have HE : Hid (cmp3 a b = 1) := by unfold Hid cmp3; rw [if_neg h1, if_pos h2]
      go_enter Try.func58, Try.ntmps58
      go_wp2
      go_ret
      exact ⟨by rw [HE.out]; rfl, rfl⟩
    · have HE : Hid (cmp3 a b = 0) := by unfold Hid cmp3; rw [if_neg h1, if_neg h2]
      go_enter Try.func58, Try.ntmps58
      go_wp2
      go_ret
      exact ⟨by rw [HE.out]; rfl, rfl⟩

set_option maxHeartbeats 800000 in
theorem usedCmp_u (x y : Spn) (W : World) : Calls Try.prog 57 #[.agg #[.int .i64 x.1, .int .i64 x.2], .agg #[.int .i64 y.1, .int .i64 y.2]] W fun e w' => e = .returned (.int .i64 (cmp3 x.1 y.1)) ∧ ∃ q os', w' = Sort.grow (W.drewN q) os' := by
  have hcon := fun W' => cmp_u W' x.1 y.1
  generalize cmp3 x.1 y.1 = r at hcon ⊢
  go_enter Try.func57, Try.ntmps57
  go_wp2_with (go_at_call 58; refine (hcon _).mono ?_; rintro e w' ⟨rfl, rfl⟩)
  go_ret
  exact ⟨rfl, 0, _, by rw [Sort.alloc_eq_grow, Sort.alloc_eq_grow, Sort.grow_grow]; rfl⟩

theorem used_lt (x y : Spn) : ltOf (fun x y : Spn => cmp3 x.1 y.1) x y = decide (x.1 < y.1) := by
  unfold ltOf cmp3
  by_cases h1 : x.1 < y.1
  · simp [h1]
  · by_cases h2 : y.1 < x.1 <;> simp [h1, h2]

theorem used_swo : Sort.SWO (ltOf fun x y : Spn => cmp3 x.1 y.1) :=
  ⟨fun x => by rw [used_lt]; simp, fun x y z h1 h2 => by rw [used_lt] at *; simp at *; omega, fun x y z h1 h2 => by rw [used_lt] at *; simp at *; omega⟩

theorem map_block {w : World} {g : Nat} {f : Array Value → Array Value} : (Sort.mapBlock w g f).heap.size = w.heap.size ∧ ∀ k, k ≠ g → (Sort.mapBlock w g f).heap[k]? = w.heap[k]? := by
  unfold Sort.mapBlock
  refine ⟨by simp, fun k hk => ?_⟩
  simp only [Array.getElem?_modify]
  rw [if_neg (fun h => hk h.symm)]

set_option maxHeartbeats 1000000 in
/-- The sort of a list of the call's own: the same extents, by Phys. -/
theorem sortSpns_u (w : World) (base : Nat) (a : Option Addr) (n c : Nat) (l : List Spn) (hO : OwnS 26 w base (.slice a n c) l) (hn : l.length ≤ 1024) :
    Calls Try.prog 56 #[.slice a n c, .func (.func 57) #[] #[]] w fun e w' => e = .returned (.tuple #[]) ∧ ∃ D : List Spn, D.Perm l ∧ (∀ i j (hi : i < D.length) (hj : j < D.length), i < j → D[i].1 ≤ D[j].1) ∧ rSpns.rd w' (fun b => base ≤ b) [.slice a n c] D ∧ Turns (fun k => (Value.slice a n c).ownBlock = some k) (fun k => (Value.slice a n c).ownBlock = some k) w w' := by
  by_cases h0 : l.length = 0
  · obtain rfl : l = [] := List.length_eq_zero_iff.1 h0
    obtain ⟨a', c', e, -, -⟩ := hO.slice
    simp only [Value.slice.injEq] at e
    obtain ⟨rfl, rfl, rfl⟩ := e
    refine (show Calls Try.prog 56 _ _ _ from AnyF.slices_SortFunc_none sortSpn a c (.func (.func 57) #[] #[]) w).mono ?_
    rintro e w' ⟨rfl, rfl⟩
    exact ⟨rfl, [], List.Perm.refl _, (fun i j hi => by cases hi), hO.rd (by simp), Turns.of (Below.refl _ _)⟩
  · obtain ⟨g, rfl, hgb, hgl, hnl, hat⟩ := hO.at (by omega)
    subst hnl
    have hH : Sort.HoldsK spn2 2 w g 0 l.toArray := by
      intro j hj
      rw [Sort.size_flatK] at hj
      have hj' : j < l.toArray.size * 2 := hj
      have hq : j / 2 < l.length := by simp at hj'; omega
      rw [Sort.get_flatK _ _ _ _ hj', Nat.zero_add]
      obtain ⟨c0, c1, hf⟩ := hat (j / 2) hq
      have hx : l.toArray[j / 2]! = l[j / 2] := by rw [getElem!_pos _ _ (by simpa using hq)]; simp
      rw [hx]
      have hm : j = j / 2 * 2 + j % 2 := by omega
      have h3 : j % 2 < 2 := Nat.mod_lt _ (by decide)
      refine ⟨?_, hf j⟩
      generalize j % 2 = r at *
      generalize j / 2 = q at *
      subst hm
      match r, h3 with
      | 0, _ => exact c0
      | 1, _ => exact c1
    have hcon := AnyQ.slices_SortFunc sortSpn 2 Try.isAgg26 Try.sizeOf26 spn2 (fun _ => rfl) (fun x v hv => by simp [spn2] at hv; rcases hv with rfl | rfl <;> rfl) (fun x y => cmp3 x.1 y.1) used_swo 57 #[] g 0 c l.toArray w (enters_of Try.func57 (by kernel_rfl) rfl) (fun _ _ _ _ x y => usedCmp_u x y _) hH hgl (by simp; omega)
    have hcon' : Calls Try.prog 56 #[.slice (some ⟨g, 0, none⟩) l.toArray.size c, .func (.func 57) #[] #[]] w _ := hcon
    rw [show l.toArray.size = l.length by simp] at hcon'
    refine hcon'.mono ?_
    rintro e w' ⟨rfl, d', m, os, ⟨hp1, -, hp3⟩, hs, rfl⟩
    have hds : d'.size = l.length := by rw [hp1]; simp
    have hperm : d'.toList.Perm l := by
      have h := hp3
      simp only [Array.toList_extract, List.extract_eq_take_drop, List.drop_zero, Nat.sub_zero] at h
      rw [List.take_of_length_le (by simp [hds]), List.take_of_length_le (Nat.le_refl _)] at h
      exact h
    have hK1 : Sort.HoldsK spn2 2 (sortWorldK spn2 2 w g 0 m d' os) g 0 d' :=
      Sort.holdsK_grow spn2 2 _ os g 0 d' (by have := (map_block (w := Sort.ahead w m) (g := g) (f := Sort.putCells id 0 (Sort.flatK spn2 2 d'))).1; show g < (Sort.mapBlock _ _ _).heap.size; rw [this]; exact hgl) (Sort.holdsK_putRowK spn2 2 (Sort.ahead w m) g 0 l.toArray d' (Sort.holdsK_ahead spn2 2 w m g 0 _ hH) (by rw [hds]; simp))
    have hB : Turns (fun k => (Value.slice (some ⟨g, 0, none⟩) l.length c).ownBlock = some k) (fun k => (Value.slice (some ⟨g, 0, none⟩) l.length c).ownBlock = some k) w (sortWorldK spn2 2 w g 0 m d' os) := by
      have hm := map_block (w := Sort.ahead w m) (g := g) (f := Sort.putCells id 0 (Sort.flatK spn2 2 d'))
      have hsz : (Sort.putRowK spn2 2 (Sort.ahead w m) g 0 d').heap.size = w.heap.size := hm.1
      refine ⟨rfl, rfl, rfl, ?_, fun k hk hn => ?_, fun k hk => .inl hk⟩
      · show w.heap.size ≤ (Sort.grow _ os).heap.size
        unfold Sort.grow
        simp only [Array.size_append]
        rw [hsz]
        omega
      · show (Sort.grow _ os).heap[k]? = _
        unfold Sort.grow
        simp only
        rw [Array.getElem?_append_left (by rw [hsz]; omega)]
        exact hm.2 k (fun e => hn (by rw [e]; rfl))
    refine ⟨rfl, d'.toList, hperm, fun i j hi hj hij => ?_, ?_, hB⟩
    · have h := hs i j (Nat.zero_le _) hij (by simp at hj ⊢; omega)
      rw [used_lt] at h
      have h := of_decide_eq_false h
      simp only [Array.length_toList] at hi hj
      rw [getElem!_pos d' j hj, getElem!_pos d' i hi] at h
      simp only [Array.getElem_toList]
      omega
    · refine ⟨_, _, _, rfl, by simp [hds], ?_, (fun e => by cases e), by show l.length * 16 ≤ _; omega, fun x hx j hj => ?_⟩
      · obtain ⟨a', c', e, hlc, -⟩ := hO.slice
        simp only [Value.slice.injEq] at e
        omega
      · simp only [Option.some.injEq] at hx
        subst hx
        have hj' : j < d'.size := by simpa using hj
        have hxj : d'.toList[j] = d'[j]! := by rw [getElem!_pos d' j hj']; simp
        have hin : In2 d'.toList[j] := hO.fit _ (hperm.mem_iff.1 (List.getElem_mem hj))
        refine ⟨hgb, spn2 d'.toList[j], rSpn_rd.2 ⟨rfl, hin⟩, fun k v hv => ?_⟩
        have hk3 : k < 2 := by
          have := (List.getElem?_eq_some_iff.1 hv).1
          exact this
        have hc := (hK1.cell (i := j) (c := k) hj' hk3).1
        rw [hxj] at hv
        rw [Addr.add_lit, show rSpn.size = 2 from rfl]
        rw [Nat.zero_add] at hc ⊢
        rw [hc]
        congr 1
        obtain ⟨h1, h2⟩ := List.getElem?_eq_some_iff.1 hv
        rw [getElem!_pos _ k h1]
        exact h2

end Go.Proofs.Ytbbjbajdoekheaa
