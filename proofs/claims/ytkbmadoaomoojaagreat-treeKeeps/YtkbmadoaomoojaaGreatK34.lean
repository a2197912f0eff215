/-
  Facts that the proof rests on, part 35. Conditions: those that each of them names.
-/
import Derived.Shelf.SlIterI.Nil
import Derived.Shelf.SortM.Plain
import Derived.Shelf.SortM.SortNone
import Derived.Test.YtkbmadoaomoojaaGreatRows
import Derived.Test.YtkbmadoaomoojaaGreatK22
import Derived.Test.YtkbmadoaomoojaaGreatK30
import Derived.Test.YtkbmadoaomoojaaGreatK32
namespace Go.Proofs.YtkbmadoaomoojaaGreat
set_option maxRecDepth 20000
open Go.Shelf
def keysA_ren : Go.Shelf.Ren := ⟨fun | 7 => 40 | 10 => 60 | n => n, fun | 23 => 61 | 26 => 3 | 3 => 63 | 28 => 89 | 0 => 0 | 27 => 88 | 33 => 118 | 4 => 4 | n => n, fun | n => n⟩
theorem keysA : Go.Proofs.SlLaysZI.n7 Tryz.prog keysA_ren :=
 { mixed := by kernel_rfl,
   f7 := ⟨Tryz.f40.name, by decide, Tryz.func40.trans (congrArg some (by kernel_rfl))⟩,
   f10 := ⟨Tryz.f60.name, by decide, Tryz.func60.trans (congrArg some (by kernel_rfl))⟩,
   t0 := Tryz.underlying0,
   a0 := Tryz.isAgg0,
   z0 := Tryz.sizeOf0,
   v0 := Tryz.zeroValue0,
   t4 := Tryz.underlying4,
   a4 := Tryz.isAgg4,
   z4 := Tryz.sizeOf4,
   v4 := Tryz.zeroValue4,
   t23 := Tryz.underlying61,
   a23 := Tryz.isAgg61,
   z23 := Tryz.sizeOf61,
   v23 := Tryz.zeroValue61,
   t26 := Tryz.underlying3,
   a26 := Tryz.isAgg3,
   z26 := Tryz.sizeOf3,
   v26 := Tryz.zeroValue3,
   t27 := Tryz.underlying88,
   a27 := Tryz.isAgg88,
   z27 := Tryz.sizeOf88,
   v27 := Tryz.zeroValue88,
   t28 := Tryz.underlying89,
   a28 := Tryz.isAgg89,
   z28 := Tryz.sizeOf89,
   v28 := Tryz.zeroValue89,
   t33 := Tryz.underlying118,
   a33 := Tryz.isAgg118,
   z33 := Tryz.sizeOf118,
   v33 := Tryz.zeroValue118 }
def sortedA_ren : Go.Shelf.Ren := ⟨fun | 6 => 39 | 8 => 58 | 9 => 59 | 11 => 71 | 13 => 73 | 12 => 72 | 23 => 95 | 24 => 96 | 14 => 86 | 15 => 87 | 16 => 88 | 17 => 89 | 18 => 90 | 19 => 91 | 20 => 92 | 21 => 93 | 22 => 94 | 25 => 112 | 26 => 113 | 27 => 114 | 28 => 115 | 29 => 116 | 30 => 117 | 31 => 134 | n => n, fun | 26 => 3 | 28 => 89 | 24 => 25 | 0 => 0 | 3 => 3 | 37 => 114 | 48 => 163 | 50 => 39 | 4 => 4 | 40 => 157 | 39 => 156 | 45 => 83 | 5 => 5 | 9 => 9 | 51 => 183 | 55 => 187 | 57 => 205 | 58 => 206 | 33 => 118 | n => n, fun | n => n⟩
theorem sortedA : Go.Proofs.SlLaysZI.n6 Tryz.prog sortedA_ren :=
 { mixed := by kernel_rfl,
   f6 := ⟨Tryz.f39.name, by decide, Tryz.func39.trans (congrArg some (by kernel_rfl))⟩,
   f8 := ⟨Tryz.f58.name, by decide, Tryz.func58.trans (congrArg some (by kernel_rfl))⟩,
   f11 := ⟨Tryz.f71.name, by decide, Tryz.func71.trans (congrArg some (by kernel_rfl))⟩,
   t0 := Tryz.underlying0,
   a0 := Tryz.isAgg0,
   z0 := Tryz.sizeOf0,
   v0 := Tryz.zeroValue0,
   t24 := Tryz.underlying25,
   a24 := Tryz.isAgg25,
   z24 := Tryz.sizeOf25,
   v24 := Tryz.zeroValue25,
   t26 := Tryz.underlying3,
   a26 := Tryz.isAgg3,
   z26 := Tryz.sizeOf3,
   v26 := Tryz.zeroValue3,
   t28 := Tryz.underlying89,
   a28 := Tryz.isAgg89,
   z28 := Tryz.sizeOf89,
   v28 := Tryz.zeroValue89,
   i26 := by kernel_rfl }
def sortA_ren : Go.Shelf.Ren := ⟨fun | 5 => 59 | 8 => 73 | 7 => 72 | 19 => 95 | 20 => 96 | 10 => 86 | 11 => 87 | 12 => 88 | 13 => 89 | 14 => 90 | 15 => 91 | 16 => 92 | 17 => 93 | 18 => 94 | 30 => 112 | 31 => 113 | 32 => 114 | 33 => 115 | 34 => 116 | 35 => 117 | 40 => 134 | n => n, fun | 23 => 25 | 25 => 3 | 3 => 3 | 32 => 114 | 22 => 25 | 0 => 0 | 44 => 163 | 46 => 39 | 4 => 4 | 36 => 157 | 35 => 156 | 41 => 83 | 5 => 5 | 9 => 9 | 53 => 183 | 57 => 187 | 63 => 205 | 64 => 206 | n => n, fun | n => n⟩
theorem sortA : Go.Proofs.SlLaysM.n5 Tryz.prog sortA_ren :=
 { mixed := by kernel_rfl,
   f5 := ⟨Tryz.f59.name, by decide, Tryz.func59.trans (congrArg some (by kernel_rfl))⟩,
   f7 := ⟨Tryz.f72.name, by decide, Tryz.func72.trans (congrArg some (by kernel_rfl))⟩,
   f8 := Tryz.func73.trans (congrArg some (by kernel_rfl)),
   f10 := ⟨Tryz.f86.name, by decide, Tryz.func86.trans (congrArg some (by kernel_rfl))⟩,
   f11 := ⟨Tryz.f87.name, by decide, Tryz.func87.trans (congrArg some (by kernel_rfl))⟩,
   f12 := ⟨Tryz.f88.name, by decide, Tryz.func88.trans (congrArg some (by kernel_rfl))⟩,
   f13 := ⟨Tryz.f89.name, by decide, Tryz.func89.trans (congrArg some (by kernel_rfl))⟩,
   f14 := ⟨Tryz.f90.name, by decide, Tryz.func90.trans (congrArg some (by kernel_rfl))⟩,
   f15 := ⟨Tryz.f91.name, by decide, Tryz.func91.trans (congrArg some (by kernel_rfl))⟩,
   f16 := ⟨Tryz.f92.name, by decide, Tryz.func92.trans (congrArg some (by kernel_rfl))⟩,
   f17 := ⟨Tryz.f93.name, by decide, Tryz.func93.trans (congrArg some (by kernel_rfl))⟩,
   f18 := ⟨Tryz.f94.name, by decide, Tryz.func94.trans (congrArg some (by kernel_rfl))⟩,
   f19 := Tryz.func95.trans (congrArg some (by kernel_rfl)),
   f20 := Tryz.func96.trans (congrArg some (by kernel_rfl)),
   f30 := ⟨Tryz.f112.name, by decide, Tryz.func112.trans (congrArg some (by kernel_rfl))⟩,
   f31 := Tryz.func113.trans (congrArg some (by kernel_rfl)),
   f32 := Tryz.func114.trans (congrArg some (by kernel_rfl)),
   f33 := ⟨Tryz.f115.name, by decide, Tryz.func115.trans (congrArg some (by kernel_rfl))⟩,
   f34 := ⟨Tryz.f116.name, by decide, Tryz.func116.trans (congrArg some (by kernel_rfl))⟩,
   f35 := ⟨Tryz.f117.name, by decide, Tryz.func117.trans (congrArg some (by kernel_rfl))⟩,
   f40 := ⟨Tryz.f134.name, by decide, Tryz.func134.trans (congrArg some (by kernel_rfl))⟩,
   t0 := Tryz.underlying0,
   a0 := Tryz.isAgg0,
   z0 := Tryz.sizeOf0,
   v0 := Tryz.zeroValue0,
   t3 := Tryz.underlying3,
   a3 := Tryz.isAgg3,
   z3 := Tryz.sizeOf3,
   v3 := Tryz.zeroValue3,
   t4 := Tryz.underlying4,
   a4 := Tryz.isAgg4,
   z4 := Tryz.sizeOf4,
   v4 := Tryz.zeroValue4,
   t5 := Tryz.underlying5,
   a5 := Tryz.isAgg5,
   z5 := Tryz.sizeOf5,
   v5 := Tryz.zeroValue5,
   t9 := Tryz.underlying9,
   a9 := Tryz.isAgg9,
   z9 := Tryz.sizeOf9,
   v9 := Tryz.zeroValue9,
   t22 := Tryz.underlying25,
   a22 := Tryz.isAgg25,
   z22 := Tryz.sizeOf25,
   v22 := Tryz.zeroValue25,
   t23 := Tryz.underlying25,
   a23 := Tryz.isAgg25,
   z23 := Tryz.sizeOf25,
   v23 := Tryz.zeroValue25,
   t25 := Tryz.underlying3,
   a25 := Tryz.isAgg3,
   z25 := Tryz.sizeOf3,
   v25 := Tryz.zeroValue3,
   t32 := Tryz.underlying114,
   a32 := Tryz.isAgg114,
   z32 := Tryz.sizeOf114,
   v32 := Tryz.zeroValue114,
   t35 := Tryz.underlying156,
   a35 := Tryz.isAgg156,
   z35 := Tryz.sizeOf156,
   v35 := Tryz.zeroValue156,
   t36 := Tryz.underlying157,
   a36 := Tryz.isAgg157,
   z36 := Tryz.sizeOf157,
   v36 := Tryz.zeroValue157,
   t41 := Tryz.underlying83,
   a41 := Tryz.isAgg83,
   z41 := Tryz.sizeOf83,
   v41 := Tryz.zeroValue83,
   t44 := Tryz.underlying163,
   a44 := Tryz.isAgg163,
   z44 := Tryz.sizeOf163,
   v44 := Tryz.zeroValue163,
   t46 := Tryz.underlying39,
   a46 := Tryz.isAgg39,
   z46 := Tryz.sizeOf39,
   v46 := Tryz.zeroValue39,
   t53 := Tryz.underlying183,
   a53 := Tryz.isAgg183,
   z53 := Tryz.sizeOf183,
   v53 := Tryz.zeroValue183,
   t57 := Tryz.underlying187,
   a57 := Tryz.isAgg187,
   z57 := Tryz.sizeOf187,
   v57 := Tryz.zeroValue187,
   t63 := Tryz.underlying205,
   a63 := Tryz.isAgg205,
   z63 := Tryz.sizeOf205,
   v63 := Tryz.zeroValue205,
   t64 := Tryz.underlying206,
   a64 := Tryz.isAgg206,
   z64 := Tryz.sizeOf206,
   v64 := Tryz.zeroValue206 }
end Go.Proofs.YtkbmadoaomoojaaGreat
namespace Go.Proofs.YtkbmadoaomoojaaGreat
set_option maxRecDepth 20000
open Go.RowKit
set_option linter.unusedVariables false
namespace Tr
theorem readE_root {s : Pgs} {root : Int} (h : readE s root = 0) : s.length ≤ 2048 ∧ 0 ≤ root ∧ root ≤ 2049 := by
 obtain ⟨h1, h2⟩ := read_zero h
 refine ⟨h1, ?_⟩
 rcases h2 with ⟨rfl, -⟩ | ⟨-, d, W, -⟩
 · omega
 · have := fit_root W.fit; omega
end Tr
theorem tcheck_u (w : World) (P : Nat → Prop) (s : Pgs) (root : Int) (pa : Option Addr) (pc : Nat) (hR : rSectors.rd w P [.slice pa s.length pc] s) (h0 : -9223372036854775808 ≤ root) (h1 : root ≤ 9223372036854775807) :
 Calls Tryz.prog 21 #[.agg #[.slice pa s.length pc], .int .i64 root] w fun e w' => e = .returned (.int .i64 (Tr.readE s root)) ∧ Below w.heap.size w w' := by
 obtain ⟨w1, hw1, V1, b1, z1⟩ := boxedRow w 26 [.slice pa s.length pc]
 have a0 := V1.cell (j := 0) rfl
 have B1 : Hid _ := b1
 have hc := walked_u w1 P s root pa pc (Rep.below hR b1) h0 h1
 have HC : Hid _ := hc
 clear V1 b1 z1 hc hR
 go_enter Tryz.func21, Tryz.ntmps21
 go_wp2_with fail
 go_at_call 22
 refine Calls.mono HC.out ?_
 rintro e w2 ⟨b2, hno, hyes⟩
 by_cases hE : Tr.readE s root = 0
 · obtain ⟨g, gm, base, k, es, rfl, -⟩ := hyes hE
   have HB : Hid _ := on B1.out b2
   have HE : Hid _ := hE
   clear hno hyes b2 hE
   go_wp2
   go_ret
   exact ⟨by rw [HE.out]; rfl, HB.out⟩
 · obtain ⟨q, rfl⟩ := hno hE
   have HB : Hid _ := on B1.out b2
   clear hno hyes b2 hE
   go_wp2
   go_ret
   exact ⟨rfl, HB.out⟩
end Go.Proofs.YtkbmadoaomoojaaGreat
namespace Go.Proofs.YtkbmadoaomoojaaGreat
set_option maxRecDepth 20000
open Go.RowKit Go.Shelf Go.Maps Go.Sort Go.WideShapes
set_option linter.unusedVariables false
def keysR : Value → Option (DataW Unit × List MemPlace) := fun _ => some (.nil, [])
theorem rg_of {k : Int} (hk : -9223372036854775808 ≤ k ∧ k ≤ 9223372036854775807) (v : Value) (n : Nat) : Go.WideElems.rd Tryz.prog 3 keysR { key := .int .i64 k, val := v, born := n } = some (.int .i64 k, .nil) := by
 unfold Go.WideElems.rd keysR
 rw [keyOf_int_mk Tryz.underlying3 (by
  simp [Lit.wf]
  have e1 : IntKind.i64.min = -9223372036854775808 := rfl
  have e2 : IntKind.i64.max = 9223372036854775807 := rfl
  omega)]
 rfl
theorem mapEs_keys : ∀ (n : Nat) (l : List (Int × Value)), (mapEs n l).map (·.key) = l.map fun z => Value.int .i64 z.1
 | n, [] => rfl
 | n, z :: l => by simp [mapEs, mapEs_keys (n + 1) l]
theorem mapEs_born : ∀ (n : Nat) (l : List (Int × Value)), (mapEs n l).map (·.born) = List.range' n l.length
 | n, [] => rfl
 | n, z :: l => by simp [mapEs, mapEs_born (n + 1) l, List.range'_succ]
theorem mapEs_rg : ∀ (n : Nat) (l : List (Int × Value)), (∀ z ∈ l, -9223372036854775808 ≤ z.1 ∧ z.1 ≤ 9223372036854775807) → (mapEs n l).map (Go.WideElems.rg Tryz.prog 3 keysR) = l.map fun z => (Lit.int .i64 z.1, DataW.nil)
 | n, [], _ => rfl
 | n, z :: l, h => by
   simp only [mapEs, List.map_cons]
   rw [mapEs_rg (n + 1) l (fun y hy => h y (by simp [hy]))]
   unfold Go.WideElems.rg
   rw [rg_of (h z (by simp))]
   rfl
theorem mapEs_reads : ∀ (n : Nat) (l : List (Int × Value)), (∀ z ∈ l, -9223372036854775808 ≤ z.1 ∧ z.1 ≤ 9223372036854775807) → ∀ x ∈ mapEs n l, ∃ y, Go.WideElems.rd Tryz.prog 3 keysR x = some y
 | n, [], _, x, hx => by cases hx
 | n, z :: l, h, x, hx => by
   simp only [mapEs, List.mem_cons] at hx
   rcases hx with rfl | hx
   · exact ⟨_, rg_of (h z (by simp)) _ _⟩
   · exact mapEs_reads (n + 1) l (fun y hy => h y (by simp [hy])) x hx
theorem met_owns {w : World} {b : Nat} {l : List (Int × Value)} (h : IsMet w b l) (hn : (l.map Prod.fst).Nodup) (hr : ∀ z ∈ l, -9223372036854775808 ≤ z.1 ∧ z.1 ≤ 9223372036854775807) (hl : l.length ≤ 1000000) :
 ∃ D : DataW Unit, w.ownsMap Tryz.prog 3 keysR b l.length D ∧ (intKeys D).Perm (l.map Prod.fst) ∧ Maps.size D = l.length := by
 refine ⟨.map (((mapEs 0 l).map (Go.WideElems.rg Tryz.prog 3 keysR)).foldr DataW.insert []), ⟨(mapEs 0 l).toArray, l.length, h.eq, ⟨by simp only [List.size_toArray, mapEs_length]; unfold maxLen; omega, ⟨fun x hx => ?_, ?_, ?_⟩, ?_⟩, by simp [mapEs_length], by simp⟩, ?_, ?_⟩
 · have : x.born ∈ (mapEs 0 l).map (·.born) := List.mem_map.2 ⟨x, by simpa using hx, rfl⟩
   rw [mapEs_born] at this
   have := List.mem_range'_1.1 this
   omega
 · simp only []
   rw [mapEs_born]
   exact List.nodup_range'
 · simp only []
   rw [mapEs_keys]
   have : (l.map fun z => Value.int .i64 z.1) = (l.map Prod.fst).map (Value.int .i64) := by simp [List.map_map, Function.comp_def]
   rw [this]
   exact List.pairwise_map.2 (hn.imp fun {a b} hab e => hab (by simpa using e))
 · intro x hx
   exact mapEs_reads 0 l hr x (by simpa using hx)
 · unfold intKeys
   simp only
   rw [mapEs_rg 0 l hr]
   refine ((sorted_perm _).map _).trans ?_
   rw [List.map_map]
   exact List.Perm.of_eq (List.map_congr_left fun z _ => rfl)
 · rw [size_eq, Go.length_sorted, List.length_map, mapEs_length]
theorem sorts8 (m : Nat) : AnyZI.SortsIn Tryz.prog sortedA_ren Fence.wide m :=
 ⟨fun blk off cap ss W hH hblk hsz => callsIn_wide.2 (AnyM.slices_Sort_int sortA blk off cap ss W hH hblk hsz),
  fun p cap W => callsIn_wide.2 (AnyM.slices_Sort_int_none sortA p cap W)⟩
theorem tkeys_u (mb : Option Nat) (W : World) : Calls Tryz.prog 40 #[.map mb] W fun e w' => e = .returned (.func (.func 60) #[] #[.pointer (some ⟨W.heap.size, 0, none⟩)]) ∧ w' = W.alloc (.cells #[.map mb] 61) :=
 (callsIn_wide (n := 5)).1 (AnyZI.keys_in keysA Fence.wide 5 trivial rfl mb W)
set_option maxHeartbeats 1000000 in
theorem tsorted_u (w : World) (b : Nat) (l : List (Int × Value)) (h : IsMet w b l) (hn : (l.map Prod.fst).Nodup) (hr : ∀ z ∈ l, -9223372036854775808 ≤ z.1 ∧ z.1 ≤ 9223372036854775807) (hl : l.length ≤ 1000000) :
 Calls Tryz.prog 39 #[.func (.func 60) #[] #[.pointer (some ⟨w.heap.size, 0, none⟩)]] (w.alloc (.cells #[.map (some b)] 61)) fun e w' => ∃ v, e = .returned v ∧ OwnK 3 w' w.heap.size v ((l.map Prod.fst).mergeSort leI) ∧ Below w.heap.size w w' := by
 obtain ⟨D, hown, hperm, hsz⟩ := met_owns h hn hr hl
 have hbl := hown.lt
 have hseq : SeqGives Fence.wide 2 Tryz.prog 60 #[.pointer (some ⟨w.heap.size, 0, none⟩)] encZ (fun ss => ss.Perm (intKeys D)) (Maps.size D) (w.alloc (.cells #[.map (some b)] 61)) :=
  AnyZI.keys_gives (ρ := keysA_ren) { keysA with } Fence.wide _ trivial rfl (by omega) w.heap.size b l.length D _ (by simp) (by simp) (by
   obtain ⟨es, clock, hb, Ft, hs, hD⟩ := hown
   exact ⟨es, clock, (Below.heap_alloc _ _ b hbl).trans hb, Ft, hs, hD⟩)
 have cS := AnyZI.sorted_in sortedA Fence.wide 5 trivial trivial trivial trivial rfl (by omega) (sorts8 _) (enters_of Tryz.func59 (by kernel_rfl) rfl) 60 #[.pointer (some ⟨w.heap.size, 0, none⟩)] trivial (enters_of Tryz.func60 (by kernel_rfl) rfl) _ _ (by rw [hsz]; unfold maxLen; omega) (by rw [hsz]; omega) _ hseq
 change CallsIn _ _ Tryz.prog 39 _ _ _ at cS
 refine ((callsIn_wide (n := 5)).1 cS).mono ?_
 rintro e w' ⟨v, ss, rfl, hS, hrow, hnil, hb⟩
 have hm : ss.mergeSort leI = (l.map Prod.fst).mergeSort leI := mergeSort_of_perm_i (hS.trans hperm)
 refine ⟨v, rfl, ⟨?_, fun x hx => ?_⟩, ((Below.refl _ w).alloc (Nat.le_refl _) _).trans (hb.mono (by simp))⟩
 · have h1 := ownsRow_base_a hrow (by simp : w.heap.size ≤ _)
   rw [List.length_mergeSort, ← List.length_mergeSort (le := leI) (l := l.map Prod.fst), ← hm, List.length_mergeSort]
   unfold kidCells
   exact h1
 · have hx2 := (List.mergeSort_perm (l.map Prod.fst) leI).mem_iff.1 hx
   obtain ⟨z, hz, rfl⟩ := List.mem_map.1 hx2
   exact hr z hz
end Go.Proofs.YtkbmadoaomoojaaGreat
namespace Go.Proofs.YtkbmadoaomoojaaGreat
set_option maxRecDepth 20000
open Go.RowKit Go.Shelf Go.Maps Go.Sort
set_option linter.unusedVariables false
namespace Tr
theorem numbers_up (m : List Bool) : (numbers m).Pairwise (· < ·) := by
 unfold numbers
 rw [List.pairwise_map]
 refine List.Pairwise.sublist List.filter_sublist ?_
 refine List.Pairwise.imp ?_ List.pairwise_lt_range
 intro a b h
 omega
theorem lmet_pgs {s : Pgs} {root : Int} (h : readE s root = 0) : (root = 0 ∧ lmet s root = []) ∨ (root ≠ 0 ∧ ∃ d, Whole s root d ∧ lmet s root = pgs s d root) := by
 by_cases hr : root = 0
 · exact .inl ⟨hr, if_pos hr⟩
 · refine .inr ⟨hr, ?_⟩
   have hl := (readE_root h).1
   have hb : (walk s root).bad ≠ true := fun e => by
    unfold readE at h
    rw [if_neg (by omega), if_neg hr, if_pos e] at h
    cases h
   cases hx : lread s root with
   | none => exact absurd (lread_none.1 hx) hb
   | some r =>
     obtain ⟨w, a, b⟩ := r
     obtain ⟨d, W, e⟩ := lread_some hx
     refine ⟨d, W, ?_⟩
     unfold lmet
     rw [if_neg hr, hx, e]
     rfl
theorem lmet_sorted {s : Pgs} {root : Int} (h : readE s root = 0) : (lmet s root).mergeSort leI = readP s root := by
 have hl := (readE_root h).1
 rcases lmet_pgs h with ⟨rfl, e⟩ | ⟨hr, d, W, e⟩
 · rw [e]
   rcases (read_zero h).2 with ⟨-, -, e2⟩ | ⟨h0, -⟩
   · rw [e2]; simp
   · exact absurd rfl h0
 · rw [e]
   have hP := (read_whole hl W).2.2
   have hup : (readP s root).Pairwise (· < ·) := by rw [hP]; exact numbers_up _
   have tr : ∀ a b c : Int, leI a b = true → leI b c = true → leI a c = true := fun a b c h1 h2 => by simp only [leI, decide_eq_true_eq] at *; omega
   have tot : ∀ a b : Int, (leI a b || leI b a) = true := fun a b => by simp only [leI, Bool.or_eq_true, decide_eq_true_eq]; omega
   have hperm : (pgs s d root).Perm (readP s root) := (List.perm_ext_iff_of_nodup W.nodup (hup.imp fun {a b} hab => by omega)).2 fun q => (mem_readP hl W q).symm
   refine List.Perm.eq_of_pairwise (le := fun a b => leI a b = true) (fun a b _ _ h1 h2 => ?_) (List.pairwise_mergeSort tr tot _) (hup.imp fun {a b} hab => by simp only [leI, decide_eq_true_eq]; omega) ((List.mergeSort_perm _ leI).trans hperm)
   simp only [leI, decide_eq_true_eq] at h1 h2
   omega
theorem lmet_in {s : Pgs} {root : Int} (h : readE s root = 0) : (lmet s root).length ≤ 2048 ∧ ∀ q ∈ lmet s root, 1 ≤ q ∧ q ≤ 2048 := by
 have hl := (readE_root h).1
 rcases lmet_pgs h with ⟨rfl, e⟩ | ⟨hr, d, W, e⟩
 · rw [e]; exact ⟨by simp, fun q hq => by cases hq⟩
 · rw [e]
   have hp := fit_pages W.fit
   have := nodup_le s.length _ W.nodup hp
   exact ⟨by omega, fun q hq => by have := hp q hq; omega⟩
end Tr
set_option maxHeartbeats 1000000 in
theorem reach_u (w : World) (P : Nat → Prop) (s : Pgs) (root : Int) (pa : Option Addr) (pc : Nat) (hR : rSectors.rd w P [.slice pa s.length pc] s) (h0 : -9223372036854775808 ≤ root) (h1 : root ≤ 9223372036854775807) :
 Calls Tryz.prog 17 #[.agg #[.slice pa s.length pc], .int .i64 root] w fun e w' => ∃ a n c, e = .returned (.tuple #[.slice a n c, .int .i64 (Tr.readE s root)]) ∧ OwnK 3 w' w.heap.size (.slice a n c) (Tr.readP s root) ∧ Below w.heap.size w w' := by
 obtain ⟨w1, hw1, V1, b1, z1⟩ := boxedRow w 26 [.slice pa s.length pc]
 have a0 := V1.cell (j := 0) rfl
 have B1 : Hid _ := b1
 have HC : Hid _ := walked_u w1 P s root pa pc (Rep.below hR b1) h0 h1
 clear V1 b1 z1 hR
 go_enter Tryz.func17, Tryz.ntmps17
 go_wp2_with fail
 go_at_call 22
 refine Calls.mono HC.out ?_
 rintro e w2 ⟨b2, hno, hyes⟩
 by_cases hE : Tr.readE s root = 0
 · obtain ⟨g, gm, base, k, es, rfl, hW, hA, hb, hg, hgm, hk⟩ := hyes hE
   have HB : Hid _ := on B1.out b2
   have HE : Hid _ := hE
   have c1 := hW.row.cell (j := 1) rfl
   have HM : Hid (IsMet w2 gm es) := hW.met
   have HN : Hid ((es.map Prod.fst).Nodup) := by have h := hW.nodup; rw [← hW.keys] at h; exact h
   have HK : Hid (es.map Prod.fst = Tr.lmet s root) := hW.keys.trans hk
   have HL : Hid (es.length ≤ 2048) := by have h := (Tr.lmet_in hE).1; rw [← HK.out, List.length_map] at h; exact h
   have HRg : Hid (∀ z ∈ es, -9223372036854775808 ≤ z.1 ∧ z.1 ≤ 9223372036854775807) := fun z hz => by
    have h := (Tr.lmet_in hE).2 z.1 (by rw [← HK.out]; exact List.mem_map.2 ⟨z, hz, rfl⟩)
    omega
   clear hno hyes b2 hE hW hA hb hg hgm hk
   go_wp2_with fail
   go_at_call 40
   refine (tkeys_u (some gm) w2).mono ?_
   rintro e w3 ⟨rfl, rfl⟩
   have HS : Hid _ := tsorted_u w2 gm es HM.out HN.out HRg.out (by have := HL.out; omega)
   go_wp2_with fail
   go_at_call 39
   refine Calls.mono HS.out ?_
   rintro e w4 ⟨v, rfl, ho, b4⟩
   obtain ⟨a, c, rfl, -⟩ := ho.slice
   have HO : Hid (OwnK 3 w4 w.heap.size (.slice a ((es.map Prod.fst).mergeSort leI).length c) (Tr.readP s root)) := by
    have h := ho.mono HB.out.size
    have e2 : (es.map Prod.fst).mergeSort leI = Tr.readP s root := by rw [HK.out]; exact Tr.lmet_sorted HE.out
    rw [e2] at h ⊢
    exact h
   have HB4 : Hid _ := on HB.out b4
   obtain ⟨n4, hn4⟩ : ∃ n4, ((es.map Prod.fst).mergeSort leI).length = n4 := ⟨_, rfl⟩
   rw [hn4] at HO ⊢
   clear ho b4 hn4
   go_wp2
   go_ret2
   refine ⟨a, n4, c, ?_, HO.out, HB4.out⟩
   rw [HE.out]
   rfl
 · obtain ⟨q, rfl⟩ := hno hE
   have HB : Hid _ := on B1.out b2
   have hEz : (Tr.readE s root == 0) = false := beq_eq_false_iff_ne.2 hE
   have HP : Hid (Tr.readP s root = []) := by unfold Hid Tr.readP; rw [if_neg (fun h => hE h.1)]
   clear hno hyes b2 hE
   go_wp2
   go_ret2
   exact ⟨_, _, _, rfl, by rw [HP.out]; exact OwnK.nil _ _ _, HB.out⟩
end Go.Proofs.YtkbmadoaomoojaaGreat
namespace Go.Proofs.YtkbmadoaomoojaaGreat
set_option maxRecDepth 20000
open Go.RowKit
set_option linter.unusedVariables false
namespace Tr
theorem start {s : Pgs} {root : Int} (h : readE s root = 0) : ∃ d, OneOk s (lmet s root) (root, d) ∧ its s d root = readI s root ∧ wgt s (root, d) ≤ 2048 := by
 rcases lmet_pgs h with ⟨rfl, e⟩ | ⟨hr, d, W, e⟩
 · refine ⟨0, .inl ⟨rfl, by rw [e]; simp⟩, ?_, by unfold wgt; simp⟩
   rcases (read_zero h).2 with ⟨-, e2, -⟩ | ⟨h0, -⟩
   · rw [e2]; rfl
   · exact absurd rfl h0
 · have hl := (readE_root h).1
   refine ⟨d, .inr ⟨W.pos, ⟨_, _, W.fit⟩, fun q hq => by rw [e]; exact hq⟩, (read_whole hl W).2.1.symm, ?_⟩
   unfold wgt
   rw [if_neg (by have := W.pos; simp only; omega)]
   have := nodup_le s.length _ W.nodup (fit_pages W.fit)
   simp only
   omega
theorem readI_bad {s : Pgs} {root : Int} (h : readE s root ≠ 0) : readI s root = [] := by unfold readI; rw [if_neg (fun k => h k.1)]
end Tr
end Go.Proofs.YtkbmadoaomoojaaGreat
