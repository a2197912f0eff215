/-
  Facts that the proof rests on, part 16. Conditions: those that each of them names.
-/
import Derived.Shelf.SlIterI.Nil
import Derived.Shelf.SortM.Plain
import Derived.Shelf.SortM.SortNone
import Derived.Test.YtgbbkmdfangmmabGreatRows
import Derived.Test.YtgbbkmdfangmmabGreatC07
import Derived.Test.YtgbbkmdfangmmabGreatC10
import Derived.Test.YtgbbkmdfangmmabGreatC13
import Derived.Test.YtgbbkmdfangmmabGreatC14
namespace Go.Proofs.YtgbbkmdfangmmabGreat
set_option maxRecDepth 20000
open Go.Shelf
def keysA_ren : Go.Shelf.Ren := ⟨fun | 7 => 34 | 10 => 54 | n => n, fun | 23 => 76 | 26 => 3 | 3 => 78 | 28 => 74 | 0 => 0 | 27 => 73 | 33 => 112 | 4 => 4 | n => n, fun | n => n⟩
theorem keysA : Go.Proofs.SlLaysZI.n7 Tryz.prog keysA_ren :=
  { mixed := by kernel_rfl,
    f7 := ⟨Tryz.f34.name, by decide, Tryz.func34.trans (congrArg some (by kernel_rfl))⟩,
    f10 := ⟨Tryz.f54.name, by decide, Tryz.func54.trans (congrArg some (by kernel_rfl))⟩,
    t0 := Tryz.underlying0,
    a0 := Tryz.isAgg0,
    z0 := Tryz.sizeOf0,
    v0 := Tryz.zeroValue0,
    t4 := Tryz.underlying4,
    a4 := Tryz.isAgg4,
    z4 := Tryz.sizeOf4,
    v4 := Tryz.zeroValue4,
    t23 := Tryz.underlying76,
    a23 := Tryz.isAgg76,
    z23 := Tryz.sizeOf76,
    v23 := Tryz.zeroValue76,
    t26 := Tryz.underlying3,
    a26 := Tryz.isAgg3,
    z26 := Tryz.sizeOf3,
    v26 := Tryz.zeroValue3,
    t27 := Tryz.underlying73,
    a27 := Tryz.isAgg73,
    z27 := Tryz.sizeOf73,
    v27 := Tryz.zeroValue73,
    t28 := Tryz.underlying74,
    a28 := Tryz.isAgg74,
    z28 := Tryz.sizeOf74,
    v28 := Tryz.zeroValue74,
    t33 := Tryz.underlying112,
    a33 := Tryz.isAgg112,
    z33 := Tryz.sizeOf112,
    v33 := Tryz.zeroValue112 }
def sortedA_ren : Go.Shelf.Ren := ⟨fun | 6 => 33 | 8 => 52 | 9 => 53 | 11 => 64 | 13 => 66 | 12 => 65 | 23 => 90 | 24 => 91 | 14 => 81 | 15 => 82 | 16 => 83 | 17 => 84 | 18 => 85 | 19 => 86 | 20 => 87 | 21 => 88 | 22 => 89 | 25 => 109 | 26 => 110 | 27 => 111 | 28 => 112 | 29 => 113 | 30 => 114 | 31 => 128 | n => n, fun | 26 => 3 | 28 => 74 | 24 => 49 | 0 => 0 | 3 => 3 | 37 => 91 | 48 => 157 | 50 => 25 | 4 => 4 | 40 => 151 | 39 => 150 | 45 => 54 | 5 => 5 | 9 => 9 | 51 => 177 | 55 => 181 | 57 => 196 | 58 => 197 | 33 => 112 | n => n, fun | n => n⟩
theorem sortedA : Go.Proofs.SlLaysZI.n6 Tryz.prog sortedA_ren :=
  { mixed := by kernel_rfl,
    f6 := ⟨Tryz.f33.name, by decide, Tryz.func33.trans (congrArg some (by kernel_rfl))⟩,
    f8 := ⟨Tryz.f52.name, by decide, Tryz.func52.trans (congrArg some (by kernel_rfl))⟩,
    f11 := ⟨Tryz.f64.name, by decide, Tryz.func64.trans (congrArg some (by kernel_rfl))⟩,
    t0 := Tryz.underlying0,
    a0 := Tryz.isAgg0,
    z0 := Tryz.sizeOf0,
    v0 := Tryz.zeroValue0,
    t24 := Tryz.underlying49,
    a24 := Tryz.isAgg49,
    z24 := Tryz.sizeOf49,
    v24 := Tryz.zeroValue49,
    t26 := Tryz.underlying3,
    a26 := Tryz.isAgg3,
    z26 := Tryz.sizeOf3,
    v26 := Tryz.zeroValue3,
    t28 := Tryz.underlying74,
    a28 := Tryz.isAgg74,
    z28 := Tryz.sizeOf74,
    v28 := Tryz.zeroValue74,
    i26 := by kernel_rfl }
def sortA_ren : Go.Shelf.Ren := ⟨fun | 5 => 53 | 8 => 66 | 7 => 65 | 19 => 90 | 20 => 91 | 10 => 81 | 11 => 82 | 12 => 83 | 13 => 84 | 14 => 85 | 15 => 86 | 16 => 87 | 17 => 88 | 18 => 89 | 30 => 109 | 31 => 110 | 32 => 111 | 33 => 112 | 34 => 113 | 35 => 114 | 40 => 128 | n => n, fun | 23 => 49 | 25 => 3 | 3 => 3 | 32 => 91 | 22 => 49 | 0 => 0 | 44 => 157 | 46 => 25 | 4 => 4 | 36 => 151 | 35 => 150 | 41 => 54 | 5 => 5 | 9 => 9 | 53 => 177 | 57 => 181 | 63 => 196 | 64 => 197 | n => n, fun | n => n⟩
theorem sortA : Go.Proofs.SlLaysM.n5 Tryz.prog sortA_ren :=
  { mixed := by kernel_rfl,
    f5 := ⟨Tryz.f53.name, by decide, Tryz.func53.trans (congrArg some (by kernel_rfl))⟩,
    f7 := ⟨Tryz.f65.name, by decide, Tryz.func65.trans (congrArg some (by kernel_rfl))⟩,
    f8 := Tryz.func66.trans (congrArg some (by kernel_rfl)),
    f10 := ⟨Tryz.f81.name, by decide, Tryz.func81.trans (congrArg some (by kernel_rfl))⟩,
    f11 := ⟨Tryz.f82.name, by decide, Tryz.func82.trans (congrArg some (by kernel_rfl))⟩,
    f12 := ⟨Tryz.f83.name, by decide, Tryz.func83.trans (congrArg some (by kernel_rfl))⟩,
    f13 := ⟨Tryz.f84.name, by decide, Tryz.func84.trans (congrArg some (by kernel_rfl))⟩,
    f14 := ⟨Tryz.f85.name, by decide, Tryz.func85.trans (congrArg some (by kernel_rfl))⟩,
    f15 := ⟨Tryz.f86.name, by decide, Tryz.func86.trans (congrArg some (by kernel_rfl))⟩,
    f16 := ⟨Tryz.f87.name, by decide, Tryz.func87.trans (congrArg some (by kernel_rfl))⟩,
    f17 := ⟨Tryz.f88.name, by decide, Tryz.func88.trans (congrArg some (by kernel_rfl))⟩,
    f18 := ⟨Tryz.f89.name, by decide, Tryz.func89.trans (congrArg some (by kernel_rfl))⟩,
    f19 := Tryz.func90.trans (congrArg some (by kernel_rfl)),
    f20 := Tryz.func91.trans (congrArg some (by kernel_rfl)),
    f30 := ⟨Tryz.f109.name, by decide, Tryz.func109.trans (congrArg some (by kernel_rfl))⟩,
    f31 := Tryz.func110.trans (congrArg some (by kernel_rfl)),
    f32 := Tryz.func111.trans (congrArg some (by kernel_rfl)),
    f33 := ⟨Tryz.f112.name, by decide, Tryz.func112.trans (congrArg some (by kernel_rfl))⟩,
    f34 := ⟨Tryz.f113.name, by decide, Tryz.func113.trans (congrArg some (by kernel_rfl))⟩,
    f35 := ⟨Tryz.f114.name, by decide, Tryz.func114.trans (congrArg some (by kernel_rfl))⟩,
    f40 := ⟨Tryz.f128.name, by decide, Tryz.func128.trans (congrArg some (by kernel_rfl))⟩,
    t0 := Tryz.underlying0,
    a0 := Tryz.isAgg0,
    z0 := Tryz.sizeOf0,
    v0 := Tryz.zeroValue0,
    t3 := Tryz.underlying3,
    a3 := Tryz.isAgg3,
    z3 := Tryz.sizeOf3,
    v3 := Tryz.zeroValue3,
    t4 := Tryz.underlying4,
    a4 := Tryz.isAgg4,
    z4 := Tryz.sizeOf4,
    v4 := Tryz.zeroValue4,
    t5 := Tryz.underlying5,
    a5 := Tryz.isAgg5,
    z5 := Tryz.sizeOf5,
    v5 := Tryz.zeroValue5,
    t9 := Tryz.underlying9,
    a9 := Tryz.isAgg9,
    z9 := Tryz.sizeOf9,
    v9 := Tryz.zeroValue9,
    t22 := Tryz.underlying49,
    a22 := Tryz.isAgg49,
    z22 := Tryz.sizeOf49,
    v22 := Tryz.zeroValue49,
    t23 := Tryz.underlying49,
    a23 := Tryz.isAgg49,
    z23 := Tryz.sizeOf49,
    v23 := Tryz.zeroValue49,
    t25 := Tryz.underlying3,
    a25 := Tryz.isAgg3,
    z25 := Tryz.sizeOf3,
    v25 := Tryz.zeroValue3,
    t32 := Tryz.underlying91,
    a32 := Tryz.isAgg91,
    z32 := Tryz.sizeOf91,
    v32 := Tryz.zeroValue91,
    t35 := Tryz.underlying150,
    a35 := Tryz.isAgg150,
    z35 := Tryz.sizeOf150,
    v35 := Tryz.zeroValue150,
    t36 := Tryz.underlying151,
    a36 := Tryz.isAgg151,
    z36 := Tryz.sizeOf151,
    v36 := Tryz.zeroValue151,
    t41 := Tryz.underlying54,
    a41 := Tryz.isAgg54,
    z41 := Tryz.sizeOf54,
    v41 := Tryz.zeroValue54,
    t44 := Tryz.underlying157,
    a44 := Tryz.isAgg157,
    z44 := Tryz.sizeOf157,
    v44 := Tryz.zeroValue157,
    t46 := Tryz.underlying25,
    a46 := Tryz.isAgg25,
    z46 := Tryz.sizeOf25,
    v46 := Tryz.zeroValue25,
    t53 := Tryz.underlying177,
    a53 := Tryz.isAgg177,
    z53 := Tryz.sizeOf177,
    v53 := Tryz.zeroValue177,
    t57 := Tryz.underlying181,
    a57 := Tryz.isAgg181,
    z57 := Tryz.sizeOf181,
    v57 := Tryz.zeroValue181,
    t63 := Tryz.underlying196,
    a63 := Tryz.isAgg196,
    z63 := Tryz.sizeOf196,
    v63 := Tryz.zeroValue196,
    t64 := Tryz.underlying197,
    a64 := Tryz.isAgg197,
    z64 := Tryz.sizeOf197,
    v64 := Tryz.zeroValue197 }
end Go.Proofs.YtgbbkmdfangmmabGreat
namespace Go.Proofs.YtgbbkmdfangmmabGreat
set_option maxRecDepth 20000
open Go.RowKit
set_option linter.unusedVariables false
namespace Tr
theorem readE_root {s : Pgs} {root : Int} (h : readE s root = 0) : s.length ≤ 2048 ∧ 0 ≤ root ∧ root ≤ 2049 := by
  obtain ⟨h1, h2⟩ := read_zero h
  refine ⟨h1, ?_⟩
  rcases h2 with ⟨rfl, -⟩ | ⟨-, d, W, -⟩
  · omega
  · have := fit_root W.fit; omega
end Tr
theorem tcheck_u (w : World) (P : Nat → Prop) (s : Pgs) (root : Int) (pa : Option Addr) (pc : Nat) (hR : rSectors.rd w P [.slice pa s.length pc] s) (h0 : -9223372036854775808 ≤ root) (h1 : root ≤ 9223372036854775807) :
    Calls Tryz.prog 17 #[.agg #[.slice pa s.length pc], .int .i64 root] w fun e w' => e = .returned (.int .i64 (Tr.readE s root)) ∧ Below w.heap.size w w' := by
  obtain ⟨w1, hw1, V1, b1, z1⟩ := boxedRow w 29 [.slice pa s.length pc]
  have a0 := V1.cell (j := 0) rfl
  have B1 : Hid (Below w.heap.size w w1) := b1
  have hc := walked_u w1 P s root pa pc (Rep.below hR b1) h0 h1
  have HC : Hid _ := hc
  clear V1 b1 z1 hc hR
  go_enter Tryz.func17, Tryz.ntmps17
  go_wp2_with fail
  go_at_call 30
  refine Calls.mono HC.out ?_
  rintro e w2 ⟨b2, hno, hyes⟩
  by_cases hE : Tr.readE s root = 0
  · obtain ⟨g, gm, base, k, es, rfl, -⟩ := hyes hE
    have HB : Hid _ := on B1.out b2
    have HE : Hid _ := hE
    clear hno hyes b2 hE
    go_wp2
    go_ret
    exact ⟨by rw [HE.out]; rfl, HB.out⟩
  · obtain ⟨q, rfl⟩ := hno hE
    have HB : Hid _ := on B1.out b2
    clear hno hyes b2 hE
    go_wp2
    go_ret
    exact ⟨rfl, HB.out⟩
end Go.Proofs.YtgbbkmdfangmmabGreat
namespace Go.Proofs.YtgbbkmdfangmmabGreat
set_option maxRecDepth 20000
open Go.RowKit Go.Shelf Go.Maps Go.Sort Go.WideShapes
set_option linter.unusedVariables false
def keysR : Value → Option (DataW Unit × List MemPlace) := fun _ => some (.nil, [])
theorem rg_of {k : Int} (hk : -9223372036854775808 ≤ k ∧ k ≤ 9223372036854775807) (v : Value) (n : Nat) : Go.WideElems.rd Tryz.prog 3 keysR { key := .int .i64 k, val := v, born := n } = some (.int .i64 k, .nil) := by
  unfold Go.WideElems.rd keysR
  rw [keyOf_int_mk Tryz.underlying3 (by
    simp [Lit.wf]
    have e1 : IntKind.i64.min = -9223372036854775808 := rfl
    have e2 : IntKind.i64.max = 9223372036854775807 := rfl
    omega)]
  rfl
theorem mapEs_keys : ∀ (n : Nat) (l : List (Int × Value)), (mapEs n l).map (·.key) = l.map fun z => Value.int .i64 z.1
  | n, [] => rfl
  | n, z :: l => by simp [mapEs, mapEs_keys (n + 1) l]
theorem mapEs_born : ∀ (n : Nat) (l : List (Int × Value)), (mapEs n l).map (·.born) = List.range' n l.length
  | n, [] => rfl
  | n, z :: l => by simp [mapEs, mapEs_born (n + 1) l, List.range'_succ]
theorem mapEs_rg : ∀ (n : Nat) (l : List (Int × Value)), (∀ z ∈ l, -9223372036854775808 ≤ z.1 ∧ z.1 ≤ 9223372036854775807) → (mapEs n l).map (Go.WideElems.rg Tryz.prog 3 keysR) = l.map fun z => (Lit.int .i64 z.1, DataW.nil)
  | n, [], _ => rfl
  | n, z :: l, h => by
    simp only [mapEs, List.map_cons]
    rw [mapEs_rg (n + 1) l (fun y hy => h y (by simp [hy]))]
    unfold Go.WideElems.rg
    rw [rg_of (h z (by simp))]
    rfl
theorem mapEs_reads : ∀ (n : Nat) (l : List (Int × Value)), (∀ z ∈ l, -9223372036854775808 ≤ z.1 ∧ z.1 ≤ 9223372036854775807) → ∀ x ∈ mapEs n l, ∃ y, Go.WideElems.rd Tryz.prog 3 keysR x = some y
  | n, [], _, x, hx => by cases hx
  | n, z :: l, h, x, hx => by
    simp only [mapEs, List.mem_cons] at hx
    rcases hx with rfl | hx
    · exact ⟨_, rg_of (h z (by simp)) _ _⟩
    · exact mapEs_reads (n + 1) l (fun y hy => h y (by simp [hy])) x hx
theorem met_owns {w : World} {b : Nat} {l : List (Int × Value)} (h : IsMet w b l) (hn : (l.map Prod.fst).Nodup) (hr : ∀ z ∈ l, -9223372036854775808 ≤ z.1 ∧ z.1 ≤ 9223372036854775807) (hl : l.length ≤ 1000000) :
    ∃ D : DataW Unit, w.ownsMap Tryz.prog 3 keysR b l.length D ∧ (intKeys D).Perm (l.map Prod.fst) ∧ Maps.size D = l.length := by
  refine ⟨.map (((mapEs 0 l).map (Go.WideElems.rg Tryz.prog 3 keysR)).foldr DataW.insert []), ⟨(mapEs 0 l).toArray, l.length, h.eq, ⟨by simp only [List.size_toArray, mapEs_length]; unfold maxLen; omega, ⟨fun x hx => ?_, ?_, ?_⟩, ?_⟩, by simp [mapEs_length], by simp⟩, ?_, ?_⟩
  · have : x.born ∈ (mapEs 0 l).map (·.born) := List.mem_map.2 ⟨x, by simpa using hx, rfl⟩
    rw [mapEs_born] at this
    have := List.mem_range'_1.1 this
    omega
  · simp only []
    rw [mapEs_born]
    exact List.nodup_range'
  · simp only []
    rw [mapEs_keys]
    have : (l.map fun z => Value.int .i64 z.1) = (l.map Prod.fst).map (Value.int .i64) := by simp [List.map_map, Function.comp_def]
    rw [this]
    exact List.pairwise_map.2 (hn.imp fun {a b} hab e => hab (by simpa using e))
  · intro x hx
    exact mapEs_reads 0 l hr x (by simpa using hx)
  · unfold intKeys
    simp only
    rw [mapEs_rg 0 l hr]
    refine ((sorted_perm _).map _).trans ?_
    rw [List.map_map]
    exact List.Perm.of_eq (List.map_congr_left fun z _ => rfl)
  · rw [size_eq, Go.length_sorted, List.length_map, mapEs_length]
theorem sorts8 (m : Nat) : AnyZI.SortsIn Tryz.prog sortedA_ren Fence.wide m :=
  ⟨fun blk off cap ss W hH hblk hsz => callsIn_wide.2 (AnyM.slices_Sort_int sortA blk off cap ss W hH hblk hsz),
   fun p cap W => callsIn_wide.2 (AnyM.slices_Sort_int_none sortA p cap W)⟩
theorem tkeys_u (mb : Option Nat) (W : World) : Calls Tryz.prog 34 #[.map mb] W fun e w' => e = .returned (.func (.func 54) #[] #[.pointer (some ⟨W.heap.size, 0, none⟩)]) ∧ w' = W.alloc (.cells #[.map mb] 76) :=
  (callsIn_wide (n := 5)).1 (AnyZI.keys_in keysA Fence.wide 5 trivial rfl mb W)
set_option maxHeartbeats 1000000 in
theorem tsorted_u (w : World) (b : Nat) (l : List (Int × Value)) (h : IsMet w b l) (hn : (l.map Prod.fst).Nodup) (hr : ∀ z ∈ l, -9223372036854775808 ≤ z.1 ∧ z.1 ≤ 9223372036854775807) (hl : l.length ≤ 1000000) :
    Calls Tryz.prog 33 #[.func (.func 54) #[] #[.pointer (some ⟨w.heap.size, 0, none⟩)]] (w.alloc (.cells #[.map (some b)] 76)) fun e w' => ∃ v, e = .returned v ∧ OwnK 3 w' w.heap.size v ((l.map Prod.fst).mergeSort leI) ∧ Below w.heap.size w w' := by
  obtain ⟨D, hown, hperm, hsz⟩ := met_owns h hn hr hl
  have hbl := hown.lt
  have hseq : SeqGives Fence.wide 2 Tryz.prog 54 #[.pointer (some ⟨w.heap.size, 0, none⟩)] encZ (fun ss => ss.Perm (intKeys D)) (Maps.size D) (w.alloc (.cells #[.map (some b)] 76)) :=
    AnyZI.keys_gives (ρ := keysA_ren) { keysA with } Fence.wide _ trivial rfl (by omega) w.heap.size b l.length D _ (by simp) (by simp) (by
      obtain ⟨es, clock, hb, Ft, hs, hD⟩ := hown
      exact ⟨es, clock, (Below.heap_alloc _ _ b hbl).trans hb, Ft, hs, hD⟩)
  have cS := AnyZI.sorted_in sortedA Fence.wide 5 trivial trivial trivial trivial rfl (by omega) (sorts8 _) (enters_of Tryz.func53 (by kernel_rfl) rfl) 54 #[.pointer (some ⟨w.heap.size, 0, none⟩)] trivial (enters_of Tryz.func54 (by kernel_rfl) rfl) _ _ (by rw [hsz]; unfold maxLen; omega) (by rw [hsz]; omega) _ hseq
  change CallsIn _ _ Tryz.prog 33 _ _ _ at cS
  refine ((callsIn_wide (n := 5)).1 cS).mono ?_
  rintro e w' ⟨v, ss, rfl, hS, hrow, hnil, hb⟩
  have hm : ss.mergeSort leI = (l.map Prod.fst).mergeSort leI := mergeSort_of_perm_i (hS.trans hperm)
  refine ⟨v, rfl, ⟨?_, fun x hx => ?_⟩, ((Below.refl _ w).alloc (Nat.le_refl _) _).trans (hb.mono (by simp))⟩
  · have h1 := ownsRow_base_a hrow (by simp : w.heap.size ≤ _)
    rw [List.length_mergeSort, ← List.length_mergeSort (le := leI) (l := l.map Prod.fst), ← hm, List.length_mergeSort]
    unfold kidCells
    exact h1
  · have hx2 := (List.mergeSort_perm (l.map Prod.fst) leI).mem_iff.1 hx
    obtain ⟨z, hz, rfl⟩ := List.mem_map.1 hx2
    exact hr z hz
end Go.Proofs.YtgbbkmdfangmmabGreat
namespace Go.Proofs.YtgbbkmdfangmmabGreat
set_option maxRecDepth 20000
open Go.RowKit Go.Shelf Go.Maps Go.Sort
set_option linter.unusedVariables false
namespace Tr
theorem numbers_up (m : List Bool) : (numbers m).Pairwise (· < ·) := by
  unfold numbers
  rw [List.pairwise_map]
  refine List.Pairwise.sublist List.filter_sublist ?_
  refine List.Pairwise.imp ?_ List.pairwise_lt_range
  intro a b h
  omega
theorem lmet_pgs {s : Pgs} {root : Int} (h : readE s root = 0) : (root = 0 ∧ lmet s root = []) ∨ (root ≠ 0 ∧ ∃ d, Whole s root d ∧ lmet s root = pgs s d root) := by
  by_cases hr : root = 0
  · exact .inl ⟨hr, if_pos hr⟩
  · refine .inr ⟨hr, ?_⟩
    have hl := (readE_root h).1
    have hb : (walk s root).bad ≠ true := fun e => by
      unfold readE at h
      rw [if_neg (by omega), if_neg hr, if_pos e] at h
      cases h
    cases hx : lread s root with
    | none => exact absurd (lread_none.1 hx) hb
    | some r =>
      obtain ⟨w, a, b⟩ := r
      obtain ⟨d, W, e⟩ := lread_some hx
      refine ⟨d, W, ?_⟩
      unfold lmet
      rw [if_neg hr, hx, e]
      rfl
theorem lmet_sorted {s : Pgs} {root : Int} (h : readE s root = 0) : (lmet s root).mergeSort leI = readP s root := by
  have hl := (readE_root h).1
  rcases lmet_pgs h with ⟨rfl, e⟩ | ⟨hr, d, W, e⟩
  · rw [e]
    rcases (read_zero h).2 with ⟨-, -, e2⟩ | ⟨h0, -⟩
    · rw [e2]; simp
    · exact absurd rfl h0
  · rw [e]
    have hP := (read_whole hl W).2.2
    have hup : (readP s root).Pairwise (· < ·) := by rw [hP]; exact numbers_up _
    have tr : ∀ a b c : Int, leI a b = true → leI b c = true → leI a c = true := fun a b c h1 h2 => by simp only [leI, decide_eq_true_eq] at *; omega
    have tot : ∀ a b : Int, (leI a b || leI b a) = true := fun a b => by simp only [leI, Bool.or_eq_true, decide_eq_true_eq]; omega
    have hperm : (pgs s d root).Perm (readP s root) := (List.perm_ext_iff_of_nodup W.nodup (hup.imp fun {a b} hab => by omega)).2 fun q => (mem_readP hl W q).symm
    refine List.Perm.eq_of_pairwise (le := fun a b => leI a b = true) (fun a b _ _ h1 h2 => ?_) (List.pairwise_mergeSort tr tot _) (hup.imp fun {a b} hab => by simp only [leI, decide_eq_true_eq]; omega) ((List.mergeSort_perm _ leI).trans hperm)
    simp only [leI, decide_eq_true_eq] at h1 h2
    omega
theorem lmet_in {s : Pgs} {root : Int} (h : readE s root = 0) : (lmet s root).length ≤ 2048 ∧ ∀ q ∈ lmet s root, 1 ≤ q ∧ q ≤ 2048 := by
  have hl := (readE_root h).1
  rcases lmet_pgs h with ⟨rfl, e⟩ | ⟨hr, d, W, e⟩
  · rw [e]; exact ⟨by simp, fun q hq => by cases hq⟩
  · rw [e]
    have hp := fit_pages W.fit
    have := nodup_le s.length _ W.nodup hp
    exact ⟨by omega, fun q hq => by have := hp q hq; omega⟩
end Tr
set_option maxHeartbeats 1000000 in
theorem reach_u (w : World) (P : Nat → Prop) (s : Pgs) (root : Int) (pa : Option Addr) (pc : Nat) (hR : rSectors.rd w P [.slice pa s.length pc] s) (h0 : -9223372036854775808 ≤ root) (h1 : root ≤ 9223372036854775807) :
    Calls Tryz.prog 16 #[.agg #[.slice pa s.length pc], .int .i64 root] w fun e w' => ∃ a n c, e = .returned (.tuple #[.slice a n c, .int .i64 (Tr.readE s root)]) ∧ OwnK 3 w' w.heap.size (.slice a n c) (Tr.readP s root) ∧ Below w.heap.size w w' := by
  obtain ⟨w1, hw1, V1, b1, z1⟩ := boxedRow w 29 [.slice pa s.length pc]
  have a0 := V1.cell (j := 0) rfl
  have B1 : Hid (Below w.heap.size w w1) := b1
  have HC : Hid _ := walked_u w1 P s root pa pc (Rep.below hR b1) h0 h1
  clear V1 b1 z1 hR
  go_enter Tryz.func16, Tryz.ntmps16
  go_wp2_with fail
  go_at_call 30
  refine Calls.mono HC.out ?_
  rintro e w2 ⟨b2, hno, hyes⟩
  by_cases hE : Tr.readE s root = 0
  · obtain ⟨g, gm, base, k, es, rfl, hW, hA, hb, hg, hgm, hk⟩ := hyes hE
    have HB : Hid (Below w.heap.size w w2) := on B1.out b2
    have HE : Hid _ := hE
    have c1 := hW.row.cell (j := 1) rfl
    have HM : Hid (IsMet w2 gm es) := hW.met
    have HN : Hid ((es.map Prod.fst).Nodup) := by have h := hW.nodup; rw [← hW.keys] at h; exact h
    have HK : Hid (es.map Prod.fst = Tr.lmet s root) := hW.keys.trans hk
    have HL : Hid (es.length ≤ 2048) := by have h := (Tr.lmet_in hE).1; rw [← HK.out, List.length_map] at h; exact h
    have HRg : Hid (∀ z ∈ es, -9223372036854775808 ≤ z.1 ∧ z.1 ≤ 9223372036854775807) := fun z hz => by
      have h := (Tr.lmet_in hE).2 z.1 (by rw [← HK.out]; exact List.mem_map.2 ⟨z, hz, rfl⟩)
      omega
    clear hno hyes b2 hE hW hA hb hg hgm hk
    go_wp2_with fail
    go_at_call 34
    refine (tkeys_u (some gm) w2).mono ?_
    rintro e w3 ⟨rfl, rfl⟩
    have HS : Hid _ := tsorted_u w2 gm es HM.out HN.out HRg.out (by have := HL.out; omega)
    go_wp2_with fail
    go_at_call 33
    refine Calls.mono HS.out ?_
    rintro e w4 ⟨v, rfl, ho, b4⟩
    obtain ⟨a, c, rfl, -⟩ := ho.slice
    have HO : Hid (OwnK 3 w4 w.heap.size (.slice a ((es.map Prod.fst).mergeSort leI).length c) (Tr.readP s root)) := by
      have h := ho.mono HB.out.size
      have e2 : (es.map Prod.fst).mergeSort leI = Tr.readP s root := by rw [HK.out]; exact Tr.lmet_sorted HE.out
      rw [e2] at h ⊢
      exact h
    have HB4 : Hid (Below w.heap.size w w4) := on HB.out b4
    obtain ⟨n4, hn4⟩ : ∃ n4, ((es.map Prod.fst).mergeSort leI).length = n4 := ⟨_, rfl⟩
    rw [hn4] at HO ⊢
    clear ho b4 hn4
    go_wp2
    go_ret2
    refine ⟨a, n4, c, ?_, HO.out, HB4.out⟩
    rw [HE.out]
    rfl
  · obtain ⟨q, rfl⟩ := hno hE
    have HB : Hid _ := on B1.out b2
    have hEz : (Tr.readE s root == 0) = false := beq_eq_false_iff_ne.2 hE
    have HP : Hid (Tr.readP s root = []) := by unfold Hid Tr.readP; rw [if_neg (fun h => hE h.1)]
    clear hno hyes b2 hE
    go_wp2
    go_ret2
    exact ⟨_, _, _, rfl, by rw [HP.out]; exact OwnK.nil _ _ _, HB.out⟩
end Go.Proofs.YtgbbkmdfangmmabGreat
namespace Go.Proofs.YtgbbkmdfangmmabGreat
set_option maxRecDepth 20000
open Go.RowKit
set_option linter.unusedVariables false
namespace Tr
theorem start {s : Pgs} {root : Int} (h : readE s root = 0) : ∃ d, OneOk s (lmet s root) (root, d) ∧ its s d root = readI s root ∧ wgt s (root, d) ≤ 2048 := by
  rcases lmet_pgs h with ⟨rfl, e⟩ | ⟨hr, d, W, e⟩
  · refine ⟨0, .inl ⟨rfl, by rw [e]; simp⟩, ?_, by unfold wgt; simp⟩
    rcases (read_zero h).2 with ⟨-, e2, -⟩ | ⟨h0, -⟩
    · rw [e2]; rfl
    · exact absurd rfl h0
  · have hl := (readE_root h).1
    refine ⟨d, .inr ⟨W.pos, ⟨_, _, W.fit⟩, fun q hq => by rw [e]; exact hq⟩, (read_whole hl W).2.1.symm, ?_⟩
    unfold wgt
    rw [if_neg (by have := W.pos; simp only; omega)]
    have := nodup_le s.length _ W.nodup (fit_pages W.fit)
    simp only
    omega
theorem readI_bad {s : Pgs} {root : Int} (h : readE s root ≠ 0) : readI s root = [] := by unfold readI; rw [if_neg (fun k => h k.1)]
end Tr
theorem st_retBB {Pr : Program} {fn : Func} {p q r : Tmp} {ty t : TypeId} {tmps : Array Value} {w2 : World} {b : Nat} {d : TypeDesc} {x0 x1 : Value} (V : Row w2 b t [x0, x1])
    (u0 u1 : Value) (h : fn.results = #[.cell p ty, .tmp q, .tmp r]) (hp : tmps.getD p undef = .pointer (some ⟨b, 0, none⟩))
    (hu : Pr.underlying ty = some d) (hd : d.isRow = true) (hi : (Pr.info? ty).map (·.size) = some 2) {R : Ending → World → Prop}
    (hR : ∀ w', Kept (· ≠ b) w2 w' → R (.returned (.tuple #[.agg #[u0, u1], tmps.getD q undef, tmps.getD r undef])) w') :
    bodyPost Pr fn R .ret { tmps := tmps, defers := [] } ((w2.setCell ⟨b, 0, none⟩ u0).setCell ⟨b, 1, none⟩ u1) := by
  obtain ⟨w', hw, V', K'⟩ := V.whole2 u0 u1
  rw [hw]
  have hr := results_rowtt (Pr := Pr) (fn := fn) h hp V' hu hd hi
  exact bodyPost_ret hr rfl (hR w' K')
set_option maxHeartbeats 1000000 in
theorem tfloor_u (w : World) (P : Nat → Prop) (s : Pgs) (root : Int) (key : UInt64) (pa : Option Addr) (pc : Nat) (hR : rSectors.rd w P [.slice pa s.length pc] s) (h0 : -9223372036854775808 ≤ root) (h1 : root ≤ 9223372036854775807) :
    Calls Tryz.prog 14 #[.agg #[.slice pa s.length pc], .int .i64 root, .int .u64 (key.toNat : Int)] w fun e w' => e = .returned (.tuple #[.agg #[.int .u64 (((Tr.floorOf (Tr.readI s root) key).getD (0, 0)).1.toNat : Int), .int .u64 (((Tr.floorOf (Tr.readI s root) key).getD (0, 0)).2.toNat : Int)], .bool (Tr.floorOf (Tr.readI s root) key).isSome, .int .i64 (Tr.readE s root)]) ∧ Below w.heap.size w w' := by
  obtain ⟨wa, hwa, Va, ba, za⟩ := boxedRow w 29 [.slice pa s.length pc]
  obtain ⟨wb, hwb, Vb, bb, zb⟩ := boxedRow wa 27 [.int .u64 0, .int .u64 0]
  have a0 := (Va.below bb).cell (j := 0) rfl
  have BB : Hid (Below w.heap.size w wb) := on ba bb
  have H6 : Hid (Row wb wa.heap.size 27 [.int .u64 0, .int .u64 0]) := Vb
  have HZ : Hid (wa.heap.size = w.heap.size + 1) := za
  have HC : Hid _ := walked_u wb P s root pa pc (Rep.below hR BB.out) h0 h1
  clear Va Vb ba bb za zb hR
  go_enter Tryz.func14, Tryz.ntmps14
  go_wp2_with fail
  go_at_call 30
  refine Calls.mono HC.out ?_
  rintro e w2 ⟨b2, hno, hyes⟩
  by_cases hE : Tr.readE s root = 0
  · obtain ⟨g, gm, base, k, es, rfl, hW, hA, hb, hg, hgm, hk⟩ := hyes hE
    have B2 : Hid (Below w.heap.size w w2) := on BB.out b2
    have H62 : Hid (Row w2 wa.heap.size 27 [.int .u64 0, .int .u64 0]) := H6.out.below b2
    have HE : Hid _ := hE
    have HSn : Hid (Seen w2 g gm s (Tr.lmet s root)) := by have h := hW.seen; rw [hk] at h; exact h
    obtain ⟨d, o1, o2, o3⟩ := Tr.start hE
    have HF : Hid _ := floor_u w2 g gm s (Tr.lmet s root) HSn.out (root, d) o1 ⟨h0, h1⟩ (by omega) key
    simp only [o2] at HF
    clear hno hyes b2 hE hW hA hb hg hgm hk o1 o2 o3
    go_wp2_with fail
    go_at_call 31
    refine Calls.mono HF.out ?_
    rintro e w3 ⟨rfl, b3⟩
    obtain ⟨X, hX⟩ : ∃ X, X = (Tr.floorOf (Tr.readI s root) key).getD (0, 0) := ⟨_, rfl⟩
    obtain ⟨Y, hY⟩ : ∃ Y, Y = (Tr.floorOf (Tr.readI s root) key).isSome := ⟨_, rfl⟩
    rw [← hX, ← hY]
    have HX : Hid _ := hX
    have HY : Hid _ := hY
    obtain ⟨w4, hw4, V4, b4, z4⟩ := boxedRow w3 27 [.int .u64 (X.1.toNat : Int), .int .u64 (X.2.toNat : Int)]
    obtain ⟨c0, c1⟩ := V4.two
    have H64 : Hid (Row w4 wa.heap.size 27 [.int .u64 0, .int .u64 0]) := (H62.out.below b3).below b4
    have B4 : Hid (Below w.heap.size w w4) := on (on B2.out b3) b4
    obtain ⟨g0, g1⟩ := H64.out.two
    have g2 := H64.out.frozen 0
    have g3 := H64.out.frozen 1
    clear b3 b4 V4 z4 hX hY
    go_wp2
    exact st_retBB H64.out _ _ rfl rfl Tryz.underlying27 rfl (by kernel_rfl) (fun w' k' => ⟨by rw [HE.out, ← HX.out, ← HY.out]; rfl, Kept.belowOf B4.out k' (by have := HZ.out; omega)⟩)
  · obtain ⟨q, rfl⟩ := hno hE
    have B2 : Hid (Below w.heap.size w w2) := on BB.out b2
    have H62 : Hid (Row w2 wa.heap.size 27 [.int .u64 0, .int .u64 0]) := H6.out.below b2
    have hEz : (Tr.readE s root == 0) = false := beq_eq_false_iff_ne.2 hE
    have HI : Hid (Tr.readI s root = []) := Tr.readI_bad hE
    obtain ⟨g0, g1⟩ := H62.out.two
    have g2 := H62.out.frozen 0
    have g3 := H62.out.frozen 1
    clear hno hyes b2 hE
    go_wp2
    exact st_retBB H62.out _ _ rfl rfl Tryz.underlying27 rfl (by kernel_rfl) (fun w' k' => ⟨by rw [HI.out]; rfl, Kept.belowOf B2.out k' (by have := HZ.out; omega)⟩)
end Go.Proofs.YtgbbkmdfangmmabGreat
namespace Go.Proofs.YtgbbkmdfangmmabGreat
set_option maxRecDepth 20000
open Go.RowKit
set_option linter.unusedVariables false
theorem Walks.setLeaf {w : World} {B g gm : Nat} {P : Nat → Prop} {pa oa : Option Addr} {pc on_ oc base : Nat} {s : Pgs} {k : Tr.Wk} (h : Walks w g gm P pa pc oa on_ oc base s k) (a : Apart P B g gm base) (x : Nat) :
    Walks (w.setCell ⟨g, 3, none⟩ (.int .i64 (x : Int))) g gm P pa pc oa on_ oc base s { k with leaf := x } :=
  ⟨h.row.set 3 _, rSectors.keep h.pages (fun b hb hl => Below.heap_setCell _ _ _ _ (by have := a.pages b hb; have := a.atG; show b ≠ g; omega)), h.met.setO (p := ⟨g, 3, none⟩) a.ne _, h.len, h.out.setB (p := ⟨g, 3, none⟩) a.gb _, h.few⟩
end Go.Proofs.YtgbbkmdfangmmabGreat
namespace Go.Proofs.YtgbbkmdfangmmabGreat
set_option maxRecDepth 20000
open Go.RowKit
set_option linter.unusedVariables false
namespace Tr
theorem flat_few {s : Pgs} {d : Nat} : ∀ {ks : List Int}, (∀ k ∈ ks, (its s d k).length ≤ 3 * (pgs s d k).length) → (ks.flatMap (its s d)).length ≤ 3 * (ks.flatMap (pgs s d)).length
  | [], _ => by simp
  | k :: ks, h => by
    have h1 := h k (by simp)
    have h2 := flat_few (ks := ks) (fun y hy => h y (by simp [hy]))
    rw [List.flatMap_cons, List.flatMap_cons, List.length_append, List.length_append]
    omega
theorem its_few {s : Pgs} : ∀ {d : Nat} {lo hi : Bnd} {p : Int}, Fit s d lo hi p → (its s d p).length ≤ 3 * (pgs s d p).length
  | d + 1, lo, hi, p, h => by
    obtain ⟨h1, h2, h3⟩ := h
    have hok := (good_ok h2).1
    unfold its pgs
    by_cases hk : (nod s p).2 = []
    · rw [if_pos hk, List.length_cons]
      have := hok.few
      omega
    · rw [if_neg hk, List.length_cons]
      have hd : d ≠ 0 := fun e => by rw [if_pos e] at h3; exact hk h3
      rw [if_neg hd] at h3
      have := flat_few (s := s) (d := d) (ks := (nod s p).2) (fun k hk' => by
        obtain ⟨i, hi', rfl⟩ := List.getElem_of_mem hk'
        exact its_few (h3.2 i hi'))
      omega
theorem readI_few (s : Pgs) (root : Int) : (readI s root).length ≤ 6144 := by
  by_cases h : readE s root = 0
  · obtain ⟨hl, hr⟩ := read_root h
    rcases hr with ⟨e, -⟩ | ⟨d, -, hF, hI, hn⟩
    · rw [e]; simp
    · rw [← hI]
      have h1 := its_few hF
      have h2 := nodup_le s.length _ hn (fit_pages hF)
      omega
  · rw [readI_bad h]; simp
end Tr
end Go.Proofs.YtgbbkmdfangmmabGreat
namespace Go.Proofs.YtgbbkmdfangmmabGreat
set_option maxRecDepth 20000
open Go.RowKit
set_option linter.unusedVariables false
namespace Tr
def rangeE (s : Pgs) (root : Int) (n : Int) : Int := if readE s root = 0 then (if n < 0 then 4 else 0) else readE s root
def rangeL (s : Pgs) (root : Int) (key : UInt64) (n : Int) : List Itm := if readE s root = 0 ∧ 0 ≤ n then rangeOf (readI s root) key n.toNat else []
end Tr
end Go.Proofs.YtgbbkmdfangmmabGreat
namespace Go.Proofs.YtgbbkmdfangmmabGreat
set_option maxRecDepth 20000
open Go.RowKit
set_option linter.unusedVariables false
set_option maxHeartbeats 1000000 in
theorem trange_u (w : World) (P : Nat → Prop) (s : Pgs) (root : Int) (key : UInt64) (m : Int) (pa : Option Addr) (pc : Nat) (hR : rSectors.rd w P [.slice pa s.length pc] s) (h0 : -9223372036854775808 ≤ root) (h1 : root ≤ 9223372036854775807) (hm0 : -9223372036854775808 ≤ m) (hm1 : m ≤ 9223372036854775807) :
    Calls Tryz.prog 15 #[.agg #[.slice pa s.length pc], .int .i64 root, .int .u64 (key.toNat : Int), .int .i64 m] w fun e w' => ∃ a n c, e = .returned (.tuple #[.slice a n c, .int .i64 (Tr.rangeE s root m)]) ∧ OwnI 27 w' w.heap.size (.slice a n c) (Tr.rangeL s root key m) ∧ Below w.heap.size w w' := by
  obtain ⟨wa, hwa, Va, ba, za⟩ := boxedRow w 29 [.slice pa s.length pc]
  have a0 := Va.cell (j := 0) rfl
  have BA : Hid (Below w.heap.size w wa) := ba
  have HC : Hid _ := walked_u wa P s root pa pc (Rep.below hR ba) h0 h1
  have HFew : Hid _ := Tr.readI_few s root
  clear Va ba za hR
  go_enter Tryz.func15, Tryz.ntmps15
  go_wp2_with fail
  go_at_call 30
  refine Calls.mono HC.out ?_
  rintro e w2 ⟨b2, hno, hyes⟩
  have B2 : Hid (Below w.heap.size w w2) := on BA.out b2
  by_cases hE : Tr.readE s root = 0
  · obtain ⟨g, gm, base, k, es, rfl, hW, hA, hb, hg, hgm, hk⟩ := hyes hE
    by_cases hm : m < 0
    · have HE : Hid (Tr.rangeE s root m = 4) := by unfold Hid Tr.rangeE; rw [if_pos hE, if_pos hm]
      have HL : Hid (Tr.rangeL s root key m = []) := by unfold Hid Tr.rangeL; rw [if_neg (fun k => by omega)]
      clear hno hyes b2 hE hW hA hb hg hgm hk
      go_wp2
      go_ret2
      exact ⟨_, _, _, by rw [HE.out]; rfl, by rw [HL.out]; exact OwnI.nil _ _ _, B2.out⟩
    · have HE : Hid (Tr.rangeE s root m = 0) := by unfold Hid Tr.rangeE; rw [if_pos hE, if_neg hm]
      obtain ⟨mm, hmm⟩ : ∃ mm : Nat, m = (mm : Int) := ⟨m.toNat, by omega⟩
      subst hmm
      have HL : Hid (Tr.rangeL s root key mm = Tr.rangeOf (Tr.readI s root) key mm) := by unfold Hid Tr.rangeL; rw [if_pos ⟨hE, by omega⟩]; rfl
      have HSn : Hid (Seen w2 g gm s (Tr.lmet s root)) := by have h := hW.seen; rw [hk] at h; exact h
      obtain ⟨d, o1, o2, o3⟩ := Tr.start hE
      have HF : Hid _ := from_u w2 g gm s (Tr.lmet s root) HSn.out root d o1 ⟨h0, h1⟩ (by omega) (by rw [o2]; have := HFew.out; omega) key mm (by omega)
      simp only [o2] at HF
      have hmI : ¬ ((mm : Int) < 0) := hm
      clear hno hyes b2 hE hW hA hb hg hgm hk o1 o2 o3 hm
      go_wp2_with fail
      go_at_call 32
      refine Calls.mono HF.out ?_
      rintro e w3 ⟨a, n, c, rfl, hO, b3⟩
      go_wp2
      go_ret2
      exact ⟨a, n, c, by rw [HE.out]; rfl, by rw [HL.out]; exact hO.mono B2.out.size, on B2.out b3⟩
  · obtain ⟨q, rfl⟩ := hno hE
    have hEz : (Tr.readE s root == 0) = false := beq_eq_false_iff_ne.2 hE
    have HE : Hid (Tr.rangeE s root m = Tr.readE s root) := by unfold Hid Tr.rangeE; rw [if_neg hE]
    have HL : Hid (Tr.rangeL s root key m = []) := by unfold Hid Tr.rangeL; rw [if_neg (fun k => hE k.1)]
    clear hno hyes b2 hE
    go_wp2
    go_ret2
    exact ⟨_, _, _, by rw [HE.out]; rfl, by rw [HL.out]; exact OwnI.nil _ _ _, B2.out⟩
end Go.Proofs.YtgbbkmdfangmmabGreat
namespace Go.Proofs.YtgbbkmdfangmmabGreat
set_option maxRecDepth 20000
open Go.RowKit
set_option linter.unusedVariables false
namespace Tr
open Lf
def cnt (k : UInt64) (l : List Itm) : Nat := (l.filter fun y => decide (y.1.toNat < k.toNat)).length
def has (k : UInt64) (l : List Itm) : Bool := l.any fun y => decide (y.1 = k)
def putT (x : Itm) (l : List Itm) : List Itm := (l.filter fun y => decide (y.1.toNat < x.1.toNat)) ++ [x] ++ l.filter fun y => decide (x.1.toNat < y.1.toNat)
theorem cut_lt {k : UInt64} : ∀ {l : List Itm}, Up l → l.take (cnt k l) = (l.filter fun y => decide (y.1.toNat < k.toNat)) ∧ l.drop (cnt k l) = l.filter fun y => decide (k.toNat ≤ y.1.toNat)
  | [], _ => by simp [cnt]
  | x :: l, h => by
    obtain ⟨h1, h2⟩ := List.pairwise_cons.1 h
    obtain ⟨e1, e2⟩ := cut_lt (k := k) h2
    unfold cnt at *
    by_cases hx : x.1.toNat < k.toNat
    · rw [List.filter_cons_of_pos (by simpa using hx), List.length_cons, List.take_succ_cons, List.drop_succ_cons, e1, e2, List.filter_cons_of_neg (by simp; omega)]
      exact ⟨rfl, rfl⟩
    · have hn : (l.filter fun y => decide (y.1.toNat < k.toNat)) = [] := by
        rw [List.filter_eq_nil_iff]
        intro y hy
        have := h1 y hy
        simp; omega
      have ha : (l.filter fun y => decide (k.toNat ≤ y.1.toNat)) = l := by
        rw [List.filter_eq_self]
        intro y hy
        have := h1 y hy
        simp; omega
      rw [List.filter_cons_of_neg (by simpa using hx), hn, List.filter_cons_of_pos (by simp; omega), ha]
      exact ⟨rfl, rfl⟩
theorem cnt_le (k : UInt64) (l : List Itm) : cnt k l ≤ l.length := List.length_filter_le _ _
theorem cnt_of {k : UInt64} {l : List Itm} (h : Up l) {i : Nat} (hi : i ≤ l.length) (h1 : ∀ j (hj : j < l.length), j < i → l[j].1.toNat < k.toNat) (h2 : ∀ j (hj : j < l.length), i ≤ j → k.toNat ≤ l[j].1.toNat) : cnt k l = i := by
  obtain ⟨e1, e2⟩ := cut_lt (k := k) h
  have hle := cnt_le k l
  rcases Nat.lt_trichotomy (cnt k l) i with q | q | q
  · exfalso
    have hlt : cnt k l < l.length := by omega
    have h3 := h1 _ hlt q
    have h4 : l[cnt k l] ∈ l.drop (cnt k l) := by
      rw [List.drop_eq_getElem_cons hlt]; exact List.mem_cons_self
    rw [e2] at h4
    have := (List.mem_filter.1 h4).2
    simp only [decide_eq_true_eq] at this
    omega
  · exact q
  · exfalso
    have hlt : i < l.length := by omega
    have h3 := h2 i hlt (Nat.le_refl _)
    have h4 : l[i] ∈ l.take (cnt k l) := by
      rw [List.mem_take_iff_getElem]
      exact ⟨i, by omega, rfl⟩
    rw [e1] at h4
    have := (List.mem_filter.1 h4).2
    simp only [decide_eq_true_eq] at this
    omega
theorem has_iff {k : UInt64} {l : List Itm} (h : Up l) : has k l = true ↔ ∃ hj : cnt k l < l.length, l[cnt k l].1 = k := by
  obtain ⟨e1, e2⟩ := cut_lt (k := k) h
  unfold has
  rw [List.any_eq_true]
  constructor
  · rintro ⟨y, hy, he⟩
    simp only [decide_eq_true_eq] at he
    have hd : y ∈ l.drop (cnt k l) := by rw [e2]; exact List.mem_filter.2 ⟨hy, by simp [he]⟩
    have hlt : cnt k l < l.length := by
      rcases Nat.lt_or_ge (cnt k l) l.length with q | q
      · exact q
      · rw [List.drop_of_length_le q] at hd; cases hd
    refine ⟨hlt, ?_⟩
    rw [List.drop_eq_getElem_cons hlt] at hd e2
    have hge : k.toNat ≤ (l[cnt k l]).1.toNat := by
      have : l[cnt k l] ∈ l.filter fun y => decide (k.toNat ≤ y.1.toNat) := by rw [← e2]; exact List.mem_cons_self
      simpa using (List.mem_filter.1 this).2
    rcases List.mem_cons.1 hd with q | q
    · rw [← q]; exact he
    · have hp : Up (l.drop (cnt k l)) := List.Pairwise.sublist (List.drop_sublist _ _) h
      rw [List.drop_eq_getElem_cons hlt] at hp
      have := (List.pairwise_cons.1 hp).1 y q
      rw [he] at this
      omega
  · rintro ⟨hj, e⟩
    exact ⟨_, List.getElem_mem hj, by simp [e]⟩
theorem putT_new {x : Itm} {l : List Itm} (h : Up l) (hn : has x.1 l = false) : l.take (cnt x.1 l) ++ [x] ++ l.drop (cnt x.1 l) = putT x l := by
  obtain ⟨e1, e2⟩ := cut_lt (k := x.1) h
  unfold putT
  rw [e1, e2]
  congr 1
  refine List.filter_congr fun y hy => ?_
  have : y.1 ≠ x.1 := fun e => by
    have : has x.1 l = true := by unfold has; rw [List.any_eq_true]; exact ⟨y, hy, by simp [e]⟩
    rw [hn] at this; cases this
  have : y.1.toNat ≠ x.1.toNat := fun e => this (UInt64.toNat_inj.1 e)
  simp only [decide_eq_decide]
  omega
theorem putT_old {x : Itm} {l : List Itm} (h : Up l) (hn : has x.1 l = true) : l.set (cnt x.1 l) x = putT x l := by
  obtain ⟨hj, e⟩ := (has_iff h).1 hn
  obtain ⟨e1, e2⟩ := cut_lt (k := x.1) h
  have hs : l.set (cnt x.1 l) x = l.take (cnt x.1 l) ++ [x] ++ l.drop (cnt x.1 l + 1) := by
    rw [List.set_eq_take_append_cons_drop, if_pos hj, List.append_assoc]; rfl
  rw [hs, e1]
  unfold putT
  congr 1
  rw [List.drop_eq_getElem_cons hj] at e2
  have hp : Up (l.drop (cnt x.1 l)) := List.Pairwise.sublist (List.drop_sublist _ _) h
  rw [List.drop_eq_getElem_cons hj] at hp
  have hq := (List.pairwise_cons.1 hp).1
  have h1 : (l.filter fun y => decide (x.1.toNat < y.1.toNat)) = (l.filter fun y => decide (x.1.toNat ≤ y.1.toNat)).filter fun y => decide (x.1.toNat < y.1.toNat) := by
    rw [List.filter_filter]
    refine List.filter_congr fun y _ => ?_
    rw [← Bool.decide_and, decide_eq_decide]
    omega
  rw [h1, ← e2, List.filter_cons_of_neg (by simp [e])]
  symm
  rw [List.filter_eq_self]
  intro y hy
  have := hq y hy
  rw [e] at this
  simpa using this
theorem putT_few (x : Itm) (l : List Itm) : (putT x l).length ≤ l.length + 1 := by
  unfold putT
  rw [List.length_append, List.length_append]
  have : ∀ l : List Itm, (l.filter fun y => decide (y.1.toNat < x.1.toNat)).length + (l.filter fun y => decide (x.1.toNat < y.1.toNat)).length ≤ l.length := by
    intro l
    induction l with
    | nil => simp
    | cons y l ih =>
      simp only [List.filter_cons, List.length_cons, decide_eq_true_eq]
      split <;> split <;> (try simp only [List.length_cons]) <;> omega
  have := this l
  simp only [List.length_singleton]
  omega
def cmpK (a k : UInt64) : Int := if a.toNat < k.toNat then -1 else if k.toNat < a.toNat then 1 else 0
end Tr
theorem nan_u (w : World) (a : UInt64) : Calls Tryz.prog 58 #[.int .u64 (a.toNat : Int)] w fun e w' => e = .returned (.bool false) ∧ w = w' := by
  go_enter Tryz.func58, Tryz.ntmps58
  go_wp2
  go_ret
  simp
theorem cmp_u (w : World) (a k : UInt64) : Calls Tryz.prog 39 #[.int .u64 (a.toNat : Int), .int .u64 (k.toNat : Int)] w fun e w' => e = .returned (.int .i64 (Tr.cmpK a k)) ∧ w = w' := by
  have h1 := nan_u w a
  have h2 := nan_u w k
  by_cases q : a.toNat < k.toNat
  · have e : Tr.cmpK a k = -1 := if_pos q
    have z : (a.toNat : Int) < (k.toNat : Int) := by omega
    rw [e]
    clear e q
    go_enter Tryz.func39, Tryz.ntmps39
    go_wp2_with (go_at_call 58; first | (refine h1.mono ?_; rintro e w' ⟨rfl, rfl⟩) | (refine h2.mono ?_; rintro e w' ⟨rfl, rfl⟩))
    go_ret
    exact ⟨rfl, rfl⟩
  · have z : ¬ (a.toNat : Int) < (k.toNat : Int) := by omega
    by_cases q2 : k.toNat < a.toNat
    · have e : Tr.cmpK a k = 1 := by unfold Tr.cmpK; rw [if_neg q, if_pos q2]
      have z2 : (a.toNat : Int) > (k.toNat : Int) := by omega
      rw [e]
      clear e q q2
      go_enter Tryz.func39, Tryz.ntmps39
      go_wp2_with (go_at_call 58; first | (refine h1.mono ?_; rintro e w' ⟨rfl, rfl⟩) | (refine h2.mono ?_; rintro e w' ⟨rfl, rfl⟩))
      go_ret
      exact ⟨rfl, rfl⟩
    · have e : Tr.cmpK a k = 0 := by unfold Tr.cmpK; rw [if_neg q, if_neg q2]
      have z2 : ¬ (a.toNat : Int) > (k.toNat : Int) := by omega
      rw [e]
      clear e q q2
      go_enter Tryz.func39, Tryz.ntmps39
      go_wp2_with (go_at_call 58; first | (refine h1.mono ?_; rintro e w' ⟨rfl, rfl⟩) | (refine h2.mono ?_; rintro e w' ⟨rfl, rfl⟩))
      go_ret
      exact ⟨rfl, rfl⟩
theorem against_u (w : World) (x : Itm) (k : UInt64) : Calls Tryz.prog 21 #[.agg #[.int .u64 (x.1.toNat : Int), .int .u64 (x.2.toNat : Int)], .int .u64 (k.toNat : Int)] w fun e w' => e = .returned (.int .i64 (Tr.cmpK x.1 k)) ∧ Below w.heap.size w w' := by
  obtain ⟨w0, hw0, V0, b0, z0⟩ := boxedRow w 27 [.int .u64 (x.1.toNat : Int), .int .u64 (x.2.toNat : Int)]
  obtain ⟨r0, r1⟩ := V0.two
  have B0 : Hid (Below w.heap.size w w0) := b0
  have hc := cmp_u w0 x.1 k
  clear V0 b0 z0
  go_enter Tryz.func21, Tryz.ntmps21
  go_wp2_with (go_at_call 39; refine hc.mono ?_; rintro e w' ⟨rfl, rfl⟩)
  go_ret
  exact ⟨rfl, B0.out⟩
end Go.Proofs.YtgbbkmdfangmmabGreat
namespace Go.Proofs.YtgbbkmdfangmmabGreat
set_option maxRecDepth 20000
open Go.RowKit
set_option linter.unusedVariables false
set_option maxHeartbeats 1000000 in
theorem bin_u (w : World) (P : Nat → Prop) (a : Option Addr) (n c : Nat) (l : List Itm) (hL : rItms.rd w P [.slice a n c] l) (hn : n ≤ 1000) (hup : Tr.Up l) (key : UInt64) :
    Calls Tryz.prog 20 #[.slice a n c, .int .u64 (key.toNat : Int), .func (.func 21) #[] #[]] w fun e w' => e = .returned (.tuple #[.int .i64 (Tr.cnt key l : Nat), .bool (Tr.has key l)]) ∧ Below w.heap.size w w' := by
  have HL : Hid _ := hL
  have HN : Hid (l.length = n) := (rList_len hL).1
  have HU : Hid (Tr.Up l) := hup
  clear hL hup
  go_enter Tryz.func20, Tryz.ntmps20
  go_wp2
  go_loopw [9, 10] (fun i j wr => ∃ lo hi : Nat, i = .int .i64 lo ∧ j = .int .i64 hi ∧ lo ≤ hi ∧ hi ≤ n ∧ Hid (∀ t (ht : t < l.length), t < lo → l[t].1.toNat < key.toNat) ∧ Hid (∀ t (ht : t < l.length), hi ≤ t → key.toNat ≤ l[t].1.toNat) ∧ Hid (Below w.heap.size w wr)) (fun i j _ => (intOf j).toNat - (intOf i).toNat)
  case atStart => exact ⟨0, n, rfl, rfl, Nat.zero_le _, Nat.le_refl _, (fun t ht h => absurd h (Nat.not_lt_zero _)), (fun t ht h => by have := HN.out; omega), Below.refl _ _⟩
  case round =>
    obtain ⟨lo, hi, rfl, rfl, hlh, hin, I, J, B⟩ := hrel
    by_cases hlt : lo < hi
    · obtain ⟨m, hm⟩ : ∃ m, m = (lo + hi) / 2 := ⟨_, rfl⟩
      have hmid : ((lo : Int) + (hi : Int)) / 2 = (m : Int) := by omega
      have hm1 : lo ≤ m := by omega
      have hm2 : m < hi := by omega
      have hml : m < l.length := by have := HN.out; omega
      obtain ⟨g, off, rfl, -, -, hat⟩ := rItms_at (Rep.below HL.out B.out) (by omega)
      obtain ⟨c0, c1⟩ := hat m hml
      have hmn : (m : Int) < (n : Int) := by omega
      have hm0 : (0 : Int) ≤ (m : Int) := Int.natCast_nonneg _
      have hc := against_u wr l[m] key
      have HX : Hid (∀ X, X = l[m] → (X.1.toNat < key.toNat → ∀ t (ht : t < l.length), t < m + 1 → l[t].1.toNat < key.toNat) ∧ (¬ X.1.toNat < key.toNat → ∀ t (ht : t < l.length), m ≤ t → key.toNat ≤ l[t].1.toNat)) := by
        rintro X rfl
        have hp := List.pairwise_iff_getElem.1 HU.out
        refine ⟨fun h t ht htm => ?_, fun h t ht htm => ?_⟩
        · rcases Nat.lt_or_ge t m with q | q
          · have := hp t m ht hml q; omega
          · obtain rfl : t = m := by omega
            exact h
        · rcases Nat.lt_or_ge m t with q | q
          · have := hp m t hml ht q; omega
          · obtain rfl : t = m := by omega
            omega
      clear hat hm
      generalize hXe : l[m] = X at *
      have HX2 := HX.out X rfl
      clear HX hXe
      by_cases q : X.1.toNat < key.toNat
      · have e : Tr.cmpK X.1 key = -1 := if_pos q
        rw [e] at hc
        have I2 : Hid _ := HX2.1 q
        clear HX2 e q
        have hw1 : IntKind.i64.wrap ((m : Int) + 1) = ((m + 1 : Nat) : Int) := by rw [IntKind.wrap_i64]; omega
        go_wp2_with (go_at_call 21; refine hc.mono ?_; rintro e w5 ⟨rfl, b5⟩)
        go_roundw
        case measure => simp [intOf]; omega
        case rel => exact ⟨m + 1, hi, rfl, rfl, by omega, hin, I2, J, on B.out b5⟩
      · have J2 : Hid _ := HX2.2 q
        have hnl : ¬ (Tr.cmpK X.1 key < 0) := by unfold Tr.cmpK; rw [if_neg q]; split <;> omega
        clear HX2 q
        generalize Tr.cmpK X.1 key = Y at *
        go_wp2_with (go_at_call 21; refine hc.mono ?_; rintro e w5 ⟨rfl, b5⟩)
        go_roundw
        case measure => simp [intOf]; omega
        case rel => exact ⟨lo, m, rfl, rfl, by omega, by omega, I, J2, on B.out b5⟩
    · obtain rfl : hi = lo := by omega
      have HC : Hid (Tr.cnt key l = hi) := Tr.cnt_of HU.out (by have := HN.out; omega) I.out J.out
      by_cases hend : hi < n
      · have hml : hi < l.length := by have := HN.out; omega
        obtain ⟨g, off, rfl, -, -, hat⟩ := rItms_at (Rep.below HL.out B.out) (by omega)
        obtain ⟨c0, c1⟩ := hat hi hml
        have hmn : (hi : Int) < (n : Int) := by omega
        have hm0 : (0 : Int) ≤ (hi : Int) := Int.natCast_nonneg _
        have hc := against_u wr l[hi] key
        have HH : Hid (Tr.has key l = (Tr.cmpK l[hi].1 key == 0)) := by
          unfold Hid
          have h1 := Tr.has_iff (k := key) HU.out
          have hge := J.out hi hml (Nat.le_refl _)
          cases hb : Tr.has key l with
          | true =>
            obtain ⟨hj, e⟩ := h1.1 hb
            have e2 : l[hi].1 = key := by rw [← e]; simp only [HC.out]
            unfold Tr.cmpK
            rw [e2, if_neg (by omega), if_neg (by omega)]
            rfl
          | false =>
            have hne : l[hi].1 ≠ key := fun e => by
              rw [h1.2 ⟨by rw [HC.out]; exact hml, by simp only [HC.out]; exact e⟩] at hb
              cases hb
            have hne2 : l[hi].1.toNat ≠ key.toNat := fun e => hne (UInt64.toNat_inj.1 e)
            unfold Tr.cmpK
            rw [if_neg (by omega), if_pos (by omega)]
            rfl
        clear hat
        generalize l[hi] = X at *
        generalize Tr.cmpK X.1 key = Y at *
        go_wp2_with (go_at_call 21; refine hc.mono ?_; rintro e w5 ⟨rfl, b5⟩)
        go_ret2
        exact ⟨by rw [HC.out, HH.out]; rfl, on B.out b5⟩
      · obtain rfl : hi = n := by omega
        have HH : Hid (Tr.has key l = false) := by
          unfold Hid
          have h1 := Tr.has_iff (k := key) HU.out
          cases hb : Tr.has key l with
          | true => obtain ⟨hj, -⟩ := h1.1 hb; rw [HC.out, HN.out] at hj; omega
          | false => rfl
        go_wp2
        go_ret2
        exact ⟨by rw [HC.out, HH.out]; rfl, B.out⟩
end Go.Proofs.YtgbbkmdfangmmabGreat
