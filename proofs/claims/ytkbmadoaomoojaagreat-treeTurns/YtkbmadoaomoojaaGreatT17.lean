/-
  Facts that the proof rests on, part 18. Conditions: those that each of them names.
-/
import Derived.Test.YtkbmadoaomoojaaGreatT00
import Derived.Lib.AppendZerosOnto
import Derived.Shelf.SlIterI.Nil
import Derived.Shelf.SortM.Plain
import Derived.Shelf.SortM.SortNone
import Derived.Test.YtkbmadoaomoojaaGreatRows
import Derived.Test.YtkbmadoaomoojaaGreatT02
import Derived.Test.YtkbmadoaomoojaaGreatT09
import Derived.Test.YtkbmadoaomoojaaGreatT12
import Derived.Test.YtkbmadoaomoojaaGreatT15
import Derived.Test.YtkbmadoaomoojaaGreatT16
namespace Go.Proofs.YtkbmadoaomoojaaGreat
set_option maxHeartbeats 16000000
set_option maxRecDepth 20000
open Go.Shelf
def keysA_ren : Go.Shelf.Ren := ⟨fun | 7 => 40 | 10 => 60 | n => n, fun | 23 => 61 | 26 => 3 | 3 => 63 | 28 => 89 | 0 => 0 | 27 => 88 | 33 => 118 | 4 => 4 | n => n, fun | n => n⟩
theorem keysA : Go.Proofs.SlLaysZI.n7 Tryz.prog keysA_ren :=
 { mixed := by kernel_rfl,
   f7 := ⟨Tryz.f40.name, by decide, Tryz.func40.trans (congrArg some (by kernel_rfl))⟩,
   f10 := ⟨Tryz.f60.name, by decide, Tryz.func60.trans (congrArg some (by kernel_rfl))⟩,
   t0 := Tryz.underlying0,
   a0 := Tryz.isAgg0,
   z0 := Tryz.sizeOf0,
   v0 := Tryz.zeroValue0,
   t4 := Tryz.underlying4,
   a4 := Tryz.isAgg4,
   z4 := Tryz.sizeOf4,
   v4 := Tryz.zeroValue4,
   t23 := Tryz.underlying61,
   a23 := Tryz.isAgg61,
   z23 := Tryz.sizeOf61,
   v23 := Tryz.zeroValue61,
   t26 := Tryz.underlying3,
   a26 := Tryz.isAgg3,
   z26 := Tryz.sizeOf3,
   v26 := Tryz.zeroValue3,
   t27 := Tryz.underlying88,
   a27 := Tryz.isAgg88,
   z27 := Tryz.sizeOf88,
   v27 := Tryz.zeroValue88,
   t28 := Tryz.underlying89,
   a28 := Tryz.isAgg89,
   z28 := Tryz.sizeOf89,
   v28 := Tryz.zeroValue89,
   t33 := Tryz.underlying118,
   a33 := Tryz.isAgg118,
   z33 := Tryz.sizeOf118,
   v33 := Tryz.zeroValue118 }
def qOz : Go.Shelf.Ren := ⟨fun | 6 => 39 | 8 => 58 | 9 => 59 | 11 => 71 | 13 => 73 | 12 => 72 | 23 => 95 | 24 => 96 | 14 => 86 | 15 => 87 | 16 => 88 | 17 => 89 | 18 => 90 | 19 => 91 | 20 => 92 | 21 => 93 | 22 => 94 | 25 => 112 | 26 => 113 | 27 => 114 | 28 => 115 | 29 => 116 | 30 => 117 | 31 => 134 | n => n, fun | 26 => 3 | 28 => 89 | 24 => 25 | 0 => 0 | 3 => 3 | 37 => 114 | 48 => 163 | 50 => 39 | 4 => 4 | 40 => 157 | 39 => 156 | 45 => 83 | 5 => 5 | 9 => 9 | 51 => 183 | 55 => 187 | 57 => 205 | 58 => 206 | 33 => 118 | n => n, fun | n => n⟩
theorem sortedA : Go.Proofs.SlLaysZI.n6 Tryz.prog qOz :=
 { mixed := by kernel_rfl,
   f6 := ⟨Tryz.f39.name, by decide, Tryz.func39.trans (congrArg some (by kernel_rfl))⟩,
   f8 := ⟨Tryz.f58.name, by decide, Tryz.func58.trans (congrArg some (by kernel_rfl))⟩,
   f11 := ⟨Tryz.f71.name, by decide, Tryz.func71.trans (congrArg some (by kernel_rfl))⟩,
   t0 := Tryz.underlying0,
   a0 := Tryz.isAgg0,
   z0 := Tryz.sizeOf0,
   v0 := Tryz.zeroValue0,
   t24 := Tryz.underlying25,
   a24 := Tryz.isAgg25,
   z24 := Tryz.sizeOf25,
   v24 := Tryz.zeroValue25,
   t26 := Tryz.underlying3,
   a26 := Tryz.isAgg3,
   z26 := Tryz.sizeOf3,
   v26 := Tryz.zeroValue3,
   t28 := Tryz.underlying89,
   a28 := Tryz.isAgg89,
   z28 := Tryz.sizeOf89,
   v28 := Tryz.zeroValue89,
   i26 := by kernel_rfl }
def sortA_ren : Go.Shelf.Ren := ⟨fun | 5 => 59 | 8 => 73 | 7 => 72 | 19 => 95 | 20 => 96 | 10 => 86 | 11 => 87 | 12 => 88 | 13 => 89 | 14 => 90 | 15 => 91 | 16 => 92 | 17 => 93 | 18 => 94 | 30 => 112 | 31 => 113 | 32 => 114 | 33 => 115 | 34 => 116 | 35 => 117 | 40 => 134 | n => n, fun | 23 => 25 | 25 => 3 | 3 => 3 | 32 => 114 | 22 => 25 | 0 => 0 | 44 => 163 | 46 => 39 | 4 => 4 | 36 => 157 | 35 => 156 | 41 => 83 | 5 => 5 | 9 => 9 | 53 => 183 | 57 => 187 | 63 => 205 | 64 => 206 | n => n, fun | n => n⟩
theorem sortA : Go.Proofs.SlLaysM.n5 Tryz.prog sortA_ren :=
 { mixed := by kernel_rfl,
   f5 := ⟨Tryz.f59.name, by decide, Tryz.func59.trans (congrArg some (by kernel_rfl))⟩,
   f7 := ⟨Tryz.f72.name, by decide, Tryz.func72.trans (congrArg some (by kernel_rfl))⟩,
   f8 := Tryz.func73.trans (congrArg some (by kernel_rfl)),
   f10 := ⟨Tryz.f86.name, by decide, Tryz.func86.trans (congrArg some (by kernel_rfl))⟩,
   f11 := ⟨Tryz.f87.name, by decide, Tryz.func87.trans (congrArg some (by kernel_rfl))⟩,
   f12 := ⟨Tryz.f88.name, by decide, Tryz.func88.trans (congrArg some (by kernel_rfl))⟩,
   f13 := ⟨Tryz.f89.name, by decide, Tryz.func89.trans (congrArg some (by kernel_rfl))⟩,
   f14 := ⟨Tryz.f90.name, by decide, Tryz.func90.trans (congrArg some (by kernel_rfl))⟩,
   f15 := ⟨Tryz.f91.name, by decide, Tryz.func91.trans (congrArg some (by kernel_rfl))⟩,
   f16 := ⟨Tryz.f92.name, by decide, Tryz.func92.trans (congrArg some (by kernel_rfl))⟩,
   f17 := ⟨Tryz.f93.name, by decide, Tryz.func93.trans (congrArg some (by kernel_rfl))⟩,
   f18 := ⟨Tryz.f94.name, by decide, Tryz.func94.trans (congrArg some (by kernel_rfl))⟩,
   f19 := Tryz.func95.trans (congrArg some (by kernel_rfl)),
   f20 := Tryz.func96.trans (congrArg some (by kernel_rfl)),
   f30 := ⟨Tryz.f112.name, by decide, Tryz.func112.trans (congrArg some (by kernel_rfl))⟩,
   f31 := Tryz.func113.trans (congrArg some (by kernel_rfl)),
   f32 := Tryz.func114.trans (congrArg some (by kernel_rfl)),
   f33 := ⟨Tryz.f115.name, by decide, Tryz.func115.trans (congrArg some (by kernel_rfl))⟩,
   f34 := ⟨Tryz.f116.name, by decide, Tryz.func116.trans (congrArg some (by kernel_rfl))⟩,
   f35 := ⟨Tryz.f117.name, by decide, Tryz.func117.trans (congrArg some (by kernel_rfl))⟩,
   f40 := ⟨Tryz.f134.name, by decide, Tryz.func134.trans (congrArg some (by kernel_rfl))⟩,
   t0 := Tryz.underlying0,
   a0 := Tryz.isAgg0,
   z0 := Tryz.sizeOf0,
   v0 := Tryz.zeroValue0,
   t3 := Tryz.underlying3,
   a3 := Tryz.isAgg3,
   z3 := Tryz.sizeOf3,
   v3 := Tryz.zeroValue3,
   t4 := Tryz.underlying4,
   a4 := Tryz.isAgg4,
   z4 := Tryz.sizeOf4,
   v4 := Tryz.zeroValue4,
   t5 := Tryz.underlying5,
   a5 := Tryz.isAgg5,
   z5 := Tryz.sizeOf5,
   v5 := Tryz.zeroValue5,
   t9 := Tryz.underlying9,
   a9 := Tryz.isAgg9,
   z9 := Tryz.sizeOf9,
   v9 := Tryz.zeroValue9,
   t22 := Tryz.underlying25,
   a22 := Tryz.isAgg25,
   z22 := Tryz.sizeOf25,
   v22 := Tryz.zeroValue25,
   t23 := Tryz.underlying25,
   a23 := Tryz.isAgg25,
   z23 := Tryz.sizeOf25,
   v23 := Tryz.zeroValue25,
   t25 := Tryz.underlying3,
   a25 := Tryz.isAgg3,
   z25 := Tryz.sizeOf3,
   v25 := Tryz.zeroValue3,
   t32 := Tryz.underlying114,
   a32 := Tryz.isAgg114,
   z32 := Tryz.sizeOf114,
   v32 := Tryz.zeroValue114,
   t35 := Tryz.underlying156,
   a35 := Tryz.isAgg156,
   z35 := Tryz.sizeOf156,
   v35 := Tryz.zeroValue156,
   t36 := Tryz.underlying157,
   a36 := Tryz.isAgg157,
   z36 := Tryz.sizeOf157,
   v36 := Tryz.zeroValue157,
   t41 := Tryz.underlying83,
   a41 := Tryz.isAgg83,
   z41 := Tryz.sizeOf83,
   v41 := Tryz.zeroValue83,
   t44 := Tryz.underlying163,
   a44 := Tryz.isAgg163,
   z44 := Tryz.sizeOf163,
   v44 := Tryz.zeroValue163,
   t46 := Tryz.underlying39,
   a46 := Tryz.isAgg39,
   z46 := Tryz.sizeOf39,
   v46 := Tryz.zeroValue39,
   t53 := Tryz.underlying183,
   a53 := Tryz.isAgg183,
   z53 := Tryz.sizeOf183,
   v53 := Tryz.zeroValue183,
   t57 := Tryz.underlying187,
   a57 := Tryz.isAgg187,
   z57 := Tryz.sizeOf187,
   v57 := Tryz.zeroValue187,
   t63 := Tryz.underlying205,
   a63 := Tryz.isAgg205,
   z63 := Tryz.sizeOf205,
   v63 := Tryz.zeroValue205,
   t64 := Tryz.underlying206,
   a64 := Tryz.isAgg206,
   z64 := Tryz.sizeOf206,
   v64 := Tryz.zeroValue206 }
end Go.Proofs.YtkbmadoaomoojaaGreat
namespace Go.Proofs.YtkbmadoaomoojaaGreat
set_option maxHeartbeats 16000000
set_option maxRecDepth 20000
open Go.RowKit
set_option linter.unusedVariables false
namespace Tr
theorem readE_root {s : Pgs} {root : Int} (h : readE s root = 0) : s.length ≤ 2048 ∧ 0 ≤ root ∧ root ≤ 2049 := by
 obtain ⟨h1, h2⟩ := qDQ h
 refine ⟨h1, ?_⟩
 rcases h2 with ⟨rfl, -⟩ | ⟨-, d, W, -⟩
 · omega
 · have := qJj W.fit; omega
end Tr
theorem tcheck_u (w : World) (P : Nat → Prop) (s : Pgs) (root : Int) (pa : Option Addr) (pc : Nat) (hR : rSectors.rd w P [.slice pa s.length pc] s) (h0 : -9223372036854775808 ≤ root) (h1 : root ≤ 9223372036854775807) :
 Calls Tryz.prog 21 #[.agg #[.slice pa s.length pc], .int .i64 root] w fun e w' => e = .returned (.int .i64 (Tr.readE s root)) ∧ Below w.heap.size w w' := by
 obtain ⟨w1, hw1, V1, b1, z1⟩ := q0q w 26 [.slice pa s.length pc]
 have a0 := V1.cell (j := 0) rfl
 have B1 : Hid _ := b1
 have hc := qLX w1 P s root pa pc (Rep.below hR b1) h0 h1
 have HC : Hid _ := hc
 clear V1 b1 z1 hc hR
 go_enter Tryz.func21, Tryz.ntmps21
 go_wp2_with fail
 go_at_call 22
 refine Calls.mono HC.out ?_
 rintro e w2 ⟨b2, hno, hyes⟩
 by_cases hE : Tr.readE s root = 0
 · obtain ⟨g, gm, base, k, es, rfl, -⟩ := hyes hE
   have HB : Hid _ := on B1.out b2
   have HE : Hid _ := hE
   clear hno hyes b2 hE
   go_wp2
   go_ret
   exact ⟨by rw [HE.out]; rfl, HB.out⟩
 · obtain ⟨q, rfl⟩ := hno hE
   have HB : Hid _ := on B1.out b2
   clear hno hyes b2 hE
   go_wp2
   go_ret
   exact ⟨rfl, HB.out⟩
open Go.Maps Go.Shelf Go.Sort Go.WideShapes
def keysR : Value → Option (DataW Unit × List MemPlace) := fun _ => some (.nil, [])
theorem rg_of {k : Int} (hk : -9223372036854775808 ≤ k ∧ k ≤ 9223372036854775807) (v : Value) (n : Nat) : Go.WideElems.rd Tryz.prog 3 keysR { key := .int .i64 k, val := v, born := n } = some (.int .i64 k, .nil) := by
 unfold Go.WideElems.rd keysR
 rw [keyOf_int_mk Tryz.underlying3 (by
  simp [Lit.wf]
  have e1 : IntKind.i64.min = -9223372036854775808 := rfl
  have e2 : IntKind.i64.max = 9223372036854775807 := rfl
  omega)]
 rfl
theorem qUJ : ∀ (n : Nat) (l : List (Int × Value)), (q6Q n l).map (·.key) = l.map fun z => Value.int .i64 z.1
 | n, [] => rfl
 | n, z :: l => by simp [q6Q, qUJ (n + 1) l]
theorem qKQ : ∀ (n : Nat) (l : List (Int × Value)), (q6Q n l).map (·.born) = List.range' n l.length
 | n, [] => rfl
 | n, z :: l => by simp [q6Q, qKQ (n + 1) l, List.range'_succ]
theorem mapEs_rg : ∀ (n : Nat) (l : List (Int × Value)), (∀ z ∈ l, -9223372036854775808 ≤ z.1 ∧ z.1 ≤ 9223372036854775807) → (q6Q n l).map (Go.WideElems.rg Tryz.prog 3 keysR) = l.map fun z => (Lit.int .i64 z.1, DataW.nil)
 | n, [], _ => rfl
 | n, z :: l, h => by
   simp only [q6Q, List.map_cons]
   rw [mapEs_rg (n + 1) l (fun y hy => h y (by simp [hy]))]
   unfold Go.WideElems.rg
   rw [rg_of (h z (by simp))]
   rfl
theorem qPJ : ∀ (n : Nat) (l : List (Int × Value)), (∀ z ∈ l, -9223372036854775808 ≤ z.1 ∧ z.1 ≤ 9223372036854775807) → ∀ x ∈ q6Q n l, ∃ y, Go.WideElems.rd Tryz.prog 3 keysR x = some y
 | n, [], _, x, hx => by cases hx
 | n, z :: l, h, x, hx => by
   simp only [q6Q, List.mem_cons] at hx
   rcases hx with rfl | hx
   · exact ⟨_, rg_of (h z (by simp)) _ _⟩
   · exact qPJ (n + 1) l (fun y hy => h y (by simp [hy])) x hx
theorem met_owns {w : World} {b : Nat} {l : List (Int × Value)} (h : IsMet w b l) (hn : (l.map Prod.fst).Nodup) (hr : ∀ z ∈ l, -9223372036854775808 ≤ z.1 ∧ z.1 ≤ 9223372036854775807) (hl : l.length ≤ 1000000) :
 ∃ D : DataW Unit, w.ownsMap Tryz.prog 3 keysR b l.length D ∧ (intKeys D).Perm (l.map Prod.fst) ∧ Maps.size D = l.length := by
 refine ⟨.map (((q6Q 0 l).map (Go.WideElems.rg Tryz.prog 3 keysR)).foldr DataW.insert []), ⟨(q6Q 0 l).toArray, l.length, h.eq, ⟨by simp only [List.size_toArray, q9X]; unfold maxLen; omega, ⟨fun x hx => ?_, ?_, ?_⟩, ?_⟩, by simp [q9X], by simp⟩, ?_, ?_⟩
 · have : x.born ∈ (q6Q 0 l).map (·.born) := List.mem_map.2 ⟨x, by simpa using hx, rfl⟩
   rw [qKQ] at this
   have := List.mem_range'_1.1 this
   omega
 · simp only []
   rw [qKQ]
   exact List.nodup_range'
 · simp only []
   rw [qUJ]
   have : (l.map fun z => Value.int .i64 z.1) = (l.map Prod.fst).map (Value.int .i64) := by simp [List.map_map, Function.comp_def]
   rw [this]
   exact List.pairwise_map.2 (hn.imp fun {a b} hab e => hab (by simpa using e))
 · intro x hx
   exact qPJ 0 l hr x (by simpa using hx)
 · unfold intKeys
   simp only
   rw [mapEs_rg 0 l hr]
   refine ((sorted_perm _).map _).trans ?_
   rw [List.map_map]
   exact List.Perm.of_eq (List.map_congr_left fun z _ => rfl)
 · rw [size_eq, Go.length_sorted, List.length_map, q9X]
theorem sorts8 (m : Nat) : AnyZI.SortsIn Tryz.prog qOz Fence.wide m :=
 ⟨fun blk off cap ss W hH hblk hsz => callsIn_wide.2 (AnyM.slices_Sort_int sortA blk off cap ss W hH hblk hsz),
  fun p cap W => callsIn_wide.2 (AnyM.slices_Sort_int_none sortA p cap W)⟩
theorem tkeys_u (mb : Option Nat) (W : World) : Calls Tryz.prog 40 #[.map mb] W fun e w' => e = .returned (.func (.func 60) #[] #[.pointer (some ⟨W.heap.size, 0, none⟩)]) ∧ w' = W.alloc (.cells #[.map mb] 61) :=
 (callsIn_wide (n := 5)).1 (AnyZI.keys_in keysA Fence.wide 5 trivial rfl mb W)
theorem tsorted_u (w : World) (b : Nat) (l : List (Int × Value)) (h : IsMet w b l) (hn : (l.map Prod.fst).Nodup) (hr : ∀ z ∈ l, -9223372036854775808 ≤ z.1 ∧ z.1 ≤ 9223372036854775807) (hl : l.length ≤ 1000000) :
 Calls Tryz.prog 39 #[.func (.func 60) #[] #[.pointer (some ⟨w.heap.size, 0, none⟩)]] (w.alloc (.cells #[.map (some b)] 61)) fun e w' => ∃ v, e = .returned v ∧ OwnK 3 w' w.heap.size v ((l.map Prod.fst).mergeSort leI) ∧ Below w.heap.size w w' := by
 obtain ⟨D, hown, hperm, hsz⟩ := met_owns h hn hr hl
 have hbl := hown.lt
 have hseq : SeqGives Fence.wide 2 Tryz.prog 60 #[.pointer (some ⟨w.heap.size, 0, none⟩)] encZ (fun ss => ss.Perm (intKeys D)) (Maps.size D) (w.alloc (.cells #[.map (some b)] 61)) :=
  AnyZI.keys_gives (ρ := keysA_ren) { keysA with } Fence.wide _ trivial rfl (by omega) w.heap.size b l.length D _ (by simp) (by simp) (by
   obtain ⟨es, clock, hb, Ft, hs, hD⟩ := hown
   exact ⟨es, clock, (Below.heap_alloc _ _ b hbl).trans hb, Ft, hs, hD⟩)
 have cS := AnyZI.sorted_in sortedA Fence.wide 5 trivial trivial trivial trivial rfl (by omega) (sorts8 _) (enters_of Tryz.func59 (by kernel_rfl) rfl) 60 #[.pointer (some ⟨w.heap.size, 0, none⟩)] trivial (enters_of Tryz.func60 (by kernel_rfl) rfl) _ _ (by rw [hsz]; unfold maxLen; omega) (by rw [hsz]; omega) _ hseq
 change CallsIn _ _ Tryz.prog 39 _ _ _ at cS
 refine ((callsIn_wide (n := 5)).1 cS).mono ?_
 rintro e w' ⟨v, ss, rfl, hS, hrow, hnil, hb⟩
 have hm : ss.mergeSort leI = (l.map Prod.fst).mergeSort leI := mergeSort_of_perm_i (hS.trans hperm)
 refine ⟨v, rfl, ⟨?_, fun x hx => ?_⟩, ((Below.refl _ w).alloc (zw0 _) _).trans (hb.mono (by simp))⟩
 · have h1 := ownsRow_base_a hrow (by simp : w.heap.size ≤ _)
   rw [List.length_mergeSort, ← List.length_mergeSort (le := leI) (l := l.map Prod.fst), ← hm, List.length_mergeSort]
   unfold q1J
   exact h1
 · have hx2 := (List.mergeSort_perm (l.map Prod.fst) leI).mem_iff.1 hx
   obtain ⟨z, hz, rfl⟩ := List.mem_map.1 hx2
   exact hr z hz
end Go.Proofs.YtkbmadoaomoojaaGreat
namespace Go.Proofs.YtkbmadoaomoojaaGreat
set_option maxHeartbeats 16000000
set_option maxRecDepth 20000
open Go.RowKit Go.Shelf Go.Maps Go.Sort
set_option linter.unusedVariables false
namespace Tr
theorem numbers_up (m : List Bool) : (numbers m).Pairwise (· < ·) := by
 unfold numbers
 rw [List.pairwise_map]
 refine List.Pairwise.sublist List.filter_sublist ?_
 refine List.Pairwise.imp ?_ List.pairwise_lt_range
 intro a b h
 omega
theorem qYq {s : Pgs} {root : Int} (h : readE s root = 0) : (root = 0 ∧ lmet s root = []) ∨ (root ≠ 0 ∧ ∃ d, z0x s root d ∧ lmet s root = pgs s d root) := by
 by_cases hr : root = 0
 · exact .inl ⟨hr, if_pos hr⟩
 · refine .inr ⟨hr, ?_⟩
   have hl := (readE_root h).1
   have hb : (walk s root).bad ≠ true := fun e => by
    unfold readE at h
    rw [if_neg (by omega), if_neg hr, if_pos e] at h
    cases h
   cases hx : lread s root with
   | none => exact absurd (lread_none.1 hx) hb
   | some r =>
     obtain ⟨w, a, b⟩ := r
     obtain ⟨d, W, e⟩ := qUX hx
     refine ⟨d, W, ?_⟩
     unfold lmet
     rw [if_neg hr, hx, e]
     rfl
theorem lmet_sorted {s : Pgs} {root : Int} (h : readE s root = 0) : (lmet s root).mergeSort leI = readP s root := by
 have hl := (readE_root h).1
 rcases qYq h with ⟨rfl, e⟩ | ⟨hr, d, W, e⟩
 · rw [e]
   rcases (qDQ h).2 with ⟨-, -, e2⟩ | ⟨h0, -⟩
   · rw [e2]; simp
   · exact absurd rfl h0
 · rw [e]
   have hP := (qBz hl W).2.2
   have hup : (readP s root).Pairwise (· < ·) := by rw [hP]; exact numbers_up _
   have tr : ∀ a b c : Int, leI a b = true → leI b c = true → leI a c = true := fun a b c h1 h2 => by simp only [leI, decide_eq_true_eq] at *; omega
   have tot : ∀ a b : Int, (leI a b || leI b a) = true := fun a b => by simp only [leI, Bool.or_eq_true, decide_eq_true_eq]; omega
   have hperm : (pgs s d root).Perm (readP s root) := (List.perm_ext_iff_of_nodup W.nodup (hup.imp fun {a b} hab => by omega)).2 fun q => (mem_readP hl W q).symm
   refine List.Perm.eq_of_pairwise (le := fun a b => leI a b = true) (fun a b _ _ h1 h2 => ?_) (List.pairwise_mergeSort tr tot _) (hup.imp fun {a b} hab => by simp only [leI, decide_eq_true_eq]; omega) ((List.mergeSort_perm _ leI).trans hperm)
   simp only [leI, decide_eq_true_eq] at h1 h2
   omega
theorem lmet_in {s : Pgs} {root : Int} (h : readE s root = 0) : (lmet s root).length ≤ 2048 ∧ ∀ q ∈ lmet s root, 1 ≤ q ∧ q ≤ 2048 := by
 have hl := (readE_root h).1
 rcases qYq h with ⟨rfl, e⟩ | ⟨hr, d, W, e⟩
 · rw [e]; exact ⟨by simp, fun q hq => by cases hq⟩
 · rw [e]
   have hp := q2Q W.fit
   have := qIj s.length _ W.nodup hp
   exact ⟨by omega, fun q hq => by have := hp q hq; omega⟩
end Tr
theorem reach_u (w : World) (P : Nat → Prop) (s : Pgs) (root : Int) (pa : Option Addr) (pc : Nat) (hR : rSectors.rd w P [.slice pa s.length pc] s) (h0 : -9223372036854775808 ≤ root) (h1 : root ≤ 9223372036854775807) :
 Calls Tryz.prog 17 #[.agg #[.slice pa s.length pc], .int .i64 root] w fun e w' => ∃ a n c, e = .returned (.tuple #[.slice a n c, .int .i64 (Tr.readE s root)]) ∧ OwnK 3 w' w.heap.size (.slice a n c) (Tr.readP s root) ∧ Below w.heap.size w w' := by
 obtain ⟨w1, hw1, V1, b1, z1⟩ := q0q w 26 [.slice pa s.length pc]
 have a0 := V1.cell (j := 0) rfl
 have B1 : Hid _ := b1
 have HC : Hid _ := qLX w1 P s root pa pc (Rep.below hR b1) h0 h1
 clear V1 b1 z1 hR
 go_enter Tryz.func17, Tryz.ntmps17
 go_wp2_with fail
 go_at_call 22
 refine Calls.mono HC.out ?_
 rintro e w2 ⟨b2, hno, hyes⟩
 by_cases hE : Tr.readE s root = 0
 · obtain ⟨g, gm, base, k, es, rfl, hW, hA, hb, hg, hgm, hk⟩ := hyes hE
   have HB : Hid _ := on B1.out b2
   have HE : Hid _ := hE
   have c1 := hW.row.cell (j := 1) rfl
   have HM : Hid (IsMet w2 gm es) := hW.met
   have HN : Hid ((es.map Prod.fst).Nodup) := by have h := hW.nodup; rw [← hW.keys] at h; exact h
   have HK : Hid (es.map Prod.fst = Tr.lmet s root) := hW.keys.trans hk
   have HL : Hid (es.length ≤ 2048) := by have h := (Tr.lmet_in hE).1; rw [← HK.out, List.length_map] at h; exact h
   have HRg : Hid (∀ z ∈ es, -9223372036854775808 ≤ z.1 ∧ z.1 ≤ 9223372036854775807) := fun z hz => by
    have h := (Tr.lmet_in hE).2 z.1 (by rw [← HK.out]; exact List.mem_map.2 ⟨z, hz, rfl⟩)
    omega
   clear hno hyes b2 hE hW hA hb hg hgm hk
   go_wp2_with fail
   go_at_call 40
   refine (tkeys_u (some gm) w2).mono ?_
   rintro e w3 ⟨rfl, rfl⟩
   have HS : Hid _ := tsorted_u w2 gm es HM.out HN.out HRg.out (by have := HL.out; omega)
   go_wp2_with fail
   go_at_call 39
   refine Calls.mono HS.out ?_
   rintro e w4 ⟨v, rfl, ho, b4⟩
   obtain ⟨a, c, rfl, -⟩ := ho.slice
   have HO : Hid (OwnK 3 w4 w.heap.size (.slice a ((es.map Prod.fst).mergeSort leI).length c) (Tr.readP s root)) := by
    have h := ho.mono HB.out.size
    have e2 : (es.map Prod.fst).mergeSort leI = Tr.readP s root := by rw [HK.out]; exact Tr.lmet_sorted HE.out
    rw [e2] at h ⊢
    exact h
   have HB4 : Hid _ := on HB.out b4
   obtain ⟨n4, hn4⟩ : ∃ n4, ((es.map Prod.fst).mergeSort leI).length = n4 := ⟨_, rfl⟩
   rw [hn4] at HO ⊢
   clear ho b4 hn4
   go_wp2
   go_ret2
   refine ⟨a, n4, c, ?_, HO.out, HB4.out⟩
   rw [HE.out]
   rfl
 · obtain ⟨q, rfl⟩ := hno hE
   have HB : Hid _ := on B1.out b2
   have hEz : (Tr.readE s root == 0) = false := beq_eq_false_iff_ne.2 hE
   have HP : Hid (Tr.readP s root = []) := by unfold Hid Tr.readP; rw [if_neg (fun h => hE h.1)]
   clear hno hyes b2 hE
   go_wp2
   go_ret2
   exact ⟨_, _, _, rfl, by rw [HP.out]; exact OwnK.nil _ _ _, HB.out⟩
end Go.Proofs.YtkbmadoaomoojaaGreat
namespace Go.Proofs.YtkbmadoaomoojaaGreat
set_option maxHeartbeats 16000000
set_option maxRecDepth 20000
open Go.RowKit
set_option linter.unusedVariables false
namespace Tr
theorem start {s : Pgs} {root : Int} (h : readE s root = 0) : ∃ d, OneOk s (lmet s root) (root, d) ∧ its s d root = readI s root ∧ wgt s (root, d) ≤ 2048 := by
 rcases qYq h with ⟨rfl, e⟩ | ⟨hr, d, W, e⟩
 · refine ⟨0, .inl ⟨rfl, by rw [e]; simp⟩, ?_, by unfold wgt; simp⟩
   rcases (qDQ h).2 with ⟨-, e2, -⟩ | ⟨h0, -⟩
   · rw [e2]; rfl
   · exact absurd rfl h0
 · have hl := (readE_root h).1
   refine ⟨d, .inr ⟨W.pos, ⟨_, _, W.fit⟩, fun q hq => by rw [e]; exact hq⟩, (qBz hl W).2.1.symm, ?_⟩
   unfold wgt
   rw [if_neg (by have := W.pos; simp only; omega)]
   have := qIj s.length _ W.nodup (q2Q W.fit)
   simp only
   omega
theorem readI_bad {s : Pgs} {root : Int} (h : readE s root ≠ 0) : readI s root = [] := by unfold readI; rw [if_neg (fun k => h k.1)]
end Tr
theorem st_retBB {Pr : Program} {fn : Func} {p q r : Tmp} {ty t : TypeId} {tmps : Array Value} {w2 : World} {b : Nat} {d : TypeDesc} {x0 x1 : Value} (V : Row w2 b t [x0, x1])
 (u0 u1 : Value) (h : fn.results = #[.cell p ty, .tmp q, .tmp r]) (hp : tmps.getD p undef = .pointer (some ⟨b, 0, none⟩))
 (hu : Pr.underlying ty = some d) (hd : d.isRow = true) (hi : (Pr.info? ty).map (·.size) = some 2) {R : Ending → World → Prop}
 (hR : ∀ w', Kept (· ≠ b) w2 w' → R (.returned (.tuple #[.agg #[u0, u1], tmps.getD q undef, tmps.getD r undef])) w') :
 bodyPost Pr fn R .ret { tmps := tmps, defers := [] } ((w2.setCell ⟨b, 0, none⟩ u0).setCell ⟨b, 1, none⟩ u1) := by
 obtain ⟨w', hw, V', K'⟩ := V.whole2 u0 u1
 rw [hw]
 have hr := qHX (Pr := Pr) (fn := fn) h hp V' hu hd hi
 exact bodyPost_ret hr rfl (hR w' K')
theorem tfloor_u (w : World) (P : Nat → Prop) (s : Pgs) (root : Int) (key : UInt64) (pa : Option Addr) (pc : Nat) (hR : rSectors.rd w P [.slice pa s.length pc] s) (h0 : -9223372036854775808 ≤ root) (h1 : root ≤ 9223372036854775807) :
 Calls Tryz.prog 50 #[.agg #[.slice pa s.length pc], .int .i64 root, .int .u64 (key.toNat : Int)] w fun e w' => e = .returned (.tuple #[.agg #[.int .u64 (((Tr.floorOf (Tr.readI s root) key).getD (0, 0)).1.toNat : Int), .int .u64 (((Tr.floorOf (Tr.readI s root) key).getD (0, 0)).2.toNat : Int)], .bool (Tr.floorOf (Tr.readI s root) key).isSome, .int .i64 (Tr.readE s root)]) ∧ Below w.heap.size w w' := by
 obtain ⟨wa, hwa, Va, ba, za⟩ := q0q w 26 [.slice pa s.length pc]
 obtain ⟨wb, hwb, Vb, bb, zb⟩ := q0q wa 45 [.int .u64 0, .int .u64 0]
 have a0 := (Va.below bb).cell (j := 0) rfl
 have BB : Hid (Below w.heap.size w wb) := on ba bb
 have H6 : Hid _ := Vb
 have HZ : Hid (wa.heap.size = w.heap.size + 1) := za
 have HC : Hid _ := qLX wb P s root pa pc (Rep.below hR BB.out) h0 h1
 clear Va Vb ba bb za zb hR
 go_enter Tryz.func50, Tryz.ntmps50
 go_wp2_with fail
 go_at_call 22
 refine Calls.mono HC.out ?_
 rintro e w2 ⟨b2, hno, hyes⟩
 by_cases hE : Tr.readE s root = 0
 · obtain ⟨g, gm, base, k, es, rfl, hW, hA, hb, hg, hgm, hk⟩ := hyes hE
   have B2 : Hid _ := on BB.out b2
   have H62 : Hid _ := H6.out.below b2
   have HE : Hid _ := hE
   have HSn : Hid (Seen w2 g gm s (Tr.lmet s root)) := by have h := hW.seen; rw [hk] at h; exact h
   obtain ⟨d, o1, o2, o3⟩ := Tr.start hE
   have HF : Hid _ := floor_u w2 g gm s (Tr.lmet s root) HSn.out (root, d) o1 ⟨h0, h1⟩ (by omega) key
   simp only [o2] at HF
   clear hno hyes b2 hE hW hA hb hg hgm hk o1 o2 o3
   go_wp2_with fail
   go_at_call 66
   refine Calls.mono HF.out ?_
   rintro e w3 ⟨rfl, b3⟩
   obtain ⟨X, hX⟩ : ∃ X, X = (Tr.floorOf (Tr.readI s root) key).getD (0, 0) := ⟨_, rfl⟩
   obtain ⟨Y, hY⟩ : ∃ Y, Y = (Tr.floorOf (Tr.readI s root) key).isSome := ⟨_, rfl⟩
   rw [← hX, ← hY]
   have HX : Hid _ := hX
   have HY : Hid _ := hY
   obtain ⟨w4, hw4, V4, b4, z4⟩ := q0q w3 45 [.int .u64 (X.1.toNat : Int), .int .u64 (X.2.toNat : Int)]
   obtain ⟨c0, c1⟩ := V4.two
   have H64 : Hid _ := (H62.out.below b3).below b4
   have B4 : Hid (Below w.heap.size w w4) := on (on B2.out b3) b4
   obtain ⟨g0, g1⟩ := H64.out.two
   have g2 := H64.out.frozen 0
   have g3 := H64.out.frozen 1
   clear b3 b4 V4 z4 hX hY
   go_wp2
   exact st_retBB H64.out _ _ rfl rfl Tryz.underlying45 rfl (by kernel_rfl) (fun w' k' => ⟨by rw [HE.out, ← HX.out, ← HY.out]; rfl, Kept.belowOf B4.out k' (by have := HZ.out; omega)⟩)
 · obtain ⟨q, rfl⟩ := hno hE
   have B2 : Hid _ := on BB.out b2
   have H62 : Hid _ := H6.out.below b2
   have hEz : (Tr.readE s root == 0) = false := beq_eq_false_iff_ne.2 hE
   have HI : Hid (Tr.readI s root = []) := Tr.readI_bad hE
   obtain ⟨g0, g1⟩ := H62.out.two
   have g2 := H62.out.frozen 0
   have g3 := H62.out.frozen 1
   clear hno hyes b2 hE
   go_wp2
   exact st_retBB H62.out _ _ rfl rfl Tryz.underlying45 rfl (by kernel_rfl) (fun w' k' => ⟨by rw [HI.out]; rfl, Kept.belowOf B2.out k' (by have := HZ.out; omega)⟩)
theorem Walks.grow {w w' : World} {B g gm : Nat} {P : Nat → Prop} {pa oa : Option Addr} {pc on_ oc base : Nat} {s : Pgs} {k : Tr.Wk} (h : Walks w g gm P pa pc oa on_ oc base s k) (a : qTj P B g gm base) {oa' : Option Addr} {on' oc' : Nat} {l : List Itm} (ho : OwnI 45 w' base (.slice oa' on' oc') l) (hg : Grew w w' (.slice oa on_ oc) (.slice oa' on' oc')) (hl : l.length ≤ 3 * metN k.met) :
 Walks (w'.setCell ⟨g, 2, none⟩ (.slice oa' on' oc')) g gm P pa pc oa' on' oc' base s { k with out := l } := by
 have hown := h.out.row.lt
 have ng : (Value.slice oa on_ oc).ownBlock ≠ some g := fun e => by have := (hown g e).1; have := a.gb; omega
 have nm : (Value.slice oa on_ oc).ownBlock ≠ some gm := fun e => by have := (hown gm e).1; have := a.gmb; omega
 refine ⟨(h.row.grew hg ng).set 2 _, ?_, (h.met.grew hg nm).setO (p := ⟨g, 2, none⟩) a.ne _, h.len, ho.setB (p := ⟨g, 2, none⟩) a.gb _, hl⟩
 refine rSectors.keep (rSectors.keep h.pages (fun b hb hlt => hg.grown.block b hlt (fun e => by have := (hown b e.symm).1; have := a.pages b hb; have := a.atO; omega))) (fun b hb hlt => Below.heap_setCell _ _ _ _ (by have := a.pages b hb; have := a.atG; show b ≠ g; omega))
theorem Walks.setLeaf {w : World} {B g gm : Nat} {P : Nat → Prop} {pa oa : Option Addr} {pc on_ oc base : Nat} {s : Pgs} {k : Tr.Wk} (h : Walks w g gm P pa pc oa on_ oc base s k) (a : qTj P B g gm base) (x : Nat) :
 Walks (w.setCell ⟨g, 3, none⟩ (.int .i64 (x : Int))) g gm P pa pc oa on_ oc base s { k with leaf := x } :=
 ⟨h.row.set 3 _, rSectors.keep h.pages (fun b hb hl => Below.heap_setCell _ _ _ _ (by have := a.pages b hb; have := a.atG; show b ≠ g; omega)), h.met.setO (p := ⟨g, 3, none⟩) a.ne _, h.len, h.out.setB (p := ⟨g, 3, none⟩) a.gb _, h.few⟩
set_option maxRecDepth 20000 in
theorem node_leaf (s : Pgs) (hs : s.length ≤ 2048) (f : Nat) (hf : f < 16) (w : World) (B g gm : Nat) (P : Nat → Prop) (pa : Option Addr) (pc : Nat) (oa : Option Addr) (on_ oc base : Nat) (k : Tr.Wk) (p : Int) (lv : Int) (lo hi : Bnd) (va vb : Value)
 (hlv : lv = 17 - ((f + 1 : Nat) : Int)) (hA : qTj P B g gm base) (hW : Walks w g gm P pa pc oa on_ oc base s k) (hVa : IsBnd w va lo) (hVb : IsBnd w vb hi) (hFr : ∀ q, va.ownBlock = some q ∨ vb.ownBlock = some q → q ≠ g ∧ q ≠ gm ∧ (Value.slice oa on_ oc).ownBlock ≠ some q) (hbs : base ≤ w.heap.size) (hp0 : -9223372036854775808 ≤ p) (hp1 : p ≤ 9223372036854775807) (ho : Tr.open_ s p k = true) (hg : Tr.good s p lo hi = true) (hkn : (Tr.nod s p).2 = []):
 Calls Tryz.prog 61 #[.pointer (some ⟨g, 0, none⟩), .int .i64 p, .int .i64 lv, va, vb] w fun e w' => NodeDone s (f + 1) g gm P pa pc oa on_ oc base k p lo hi w e w' := by
 have HG0 : Hid _ := hg
 have HKn0 : Hid _ := hkn
 clear hg hkn
 obtain ⟨hb, p1, p2, hmet⟩ := Tr.open_iff.1 ho
 obtain ⟨q, hq⟩ := Int.eq_ofNat_of_zero_le (show 0 ≤ p - 1 by omega)
 obtain rfl : p = (q : Int) + 1 := by omega
 have HG : Hid (Tr.good s ((q : Int) + 1) lo hi = true) := HG0.out
 have HKn : Hid ((Tr.nod s ((q : Int) + 1)).2 = []) := HKn0.out
 have hql : q < s.length := by omega
 have hlen : s.length ≤ 2048 := hs
 rw [show ((q : Int) + 1).toNat - 1 = q by omega] at hmet
 have A : Hid _ := hA
 have HO : Hid _ := ho
 have HS0 : Hid (base ≤ w.heap.size) := hbs
 obtain ⟨xa, na, ca, rfl, hLo⟩ := hVa.parts
 obtain ⟨xb, nb, cb, rfl, hHi⟩ := hVb.parts
 have HLo : Hid _ := hLo
 have HHi : Hid _ := hHi
 have HFr : Hid _ := hFr
 have H : Hid _ := hW
 obtain ⟨c0, c1, c2, c3, c4⟩ := hW.five
 rw [hb] at c4
 have cm : w.cell? ⟨gm, q, none⟩ = some (.bool false) := by
  refine hW.met.cell ?_
  have hq' : q < k.met.length := by rw [hW.len]; exact hql
  rw [← hmet]
  simp [q5x, List.getD, zw3 hq']
 have fm := hW.met.frozen q
 obtain ⟨w1, hw1⟩ : ∃ w1, w.setCell ⟨gm, q, none⟩ (.bool true) = w1 := ⟨_, rfl⟩
 obtain ⟨k1, hk1⟩ : ∃ k1 : Tr.Wk, k1 = { k with met := k.met.set q true } := ⟨_, rfl⟩
 have HK1 : Hid _ := hk1
 have H1 : Hid (Walks w1 g gm P pa pc oa on_ oc base s k1) := by rw [← hw1, hk1]; exact hW.setMet hA q hql hmet
 have Q1 : Hid (Quiet g gm oa on_ oc w w1) := by rw [← hw1]; exact (Kept.refl _ w).setCell (p := ⟨gm, q, none⟩) (fun h => h.2.2.1 rfl) _
 have hz1 : w1.heap.size = w.heap.size := by rw [← hw1]; simp [World.setCell]
 have HZ1 : Hid _ := hz1
 have HMn : Hid (metN k1.met = metN k.met + 1) := by unfold Hid; rw [hk1]; exact qMQ k.met q (by rw [hW.len]; exact hql) hmet
 have HF0 : Hid (k.out.length ≤ 3 * metN k.met) := hW.few
 have HVa1 : Hid (IsBnd w1 (.slice xa na ca) lo) := hVa.keep (fun r hr => by rw [← hw1]; exact Below.heap_setCell _ _ _ _ (fun e => (hFr r (.inl hr)).2.1 e))
 have HVb1 : Hid (IsBnd w1 (.slice xb nb cb) hi) := hVb.keep (fun r hr => by rw [← hw1]; exact Below.heap_setCell _ _ _ _ (fun e => (hFr r (.inr hr)).2.1 e))
 obtain ⟨d0, d1, d2, d3, d4⟩ := H1.out.five
 obtain ⟨pb, off, rfl, -, -, hat⟩ := q8X H1.out.pages (by omega)
 obtain ⟨x, m, d, hpg, hml, cp⟩ := hat q hql
 have epg : s[q] = Tr.page s ((q : Int) + 1) := by unfold Tr.page; rw [show ((q : Int) + 1).toNat - 1 = q by omega]; simp [List.getD, zw3 hql]
 rw [epg] at hpg
 obtain ⟨hpB, hpc, hpn, hpm⟩ := q5Q hpg
 have HPB : Hid (IsB w1 x m (Tr.page s ((q : Int) + 1))) := hpB
 have HPc : Hid _ := hpc
 have HPn : Hid _ := hpn
 have HPm : Hid _ := hpm
 have hqz : (q : Int) < (s.length : Int) := by omega
 have hqy : ¬ (q : Int) + 1 > (s.length : Int) := by omega
 have hqx : ¬ (q : Int) + 1 < 1 := by omega
 have hlz : ¬ lv > 16 := by omega
 have hlz0 : 1 ≤ lv := by omega
 have HLv : Hid _ := hlv
 clear hA hW hVa hVb hFr hbs hLo hHi hb hmet hat hpg hml epg hpB hpc hpn hpm hq p1 p2 ho hk1 hz1 hlv
 clear hp0 hp1
 go_enter Tryz.func61, Tryz.ntmps61
 go_wp2_with fail
 refine (qGQ _ x m d (Tr.page s ((q : Int) + 1)) HPm.out HPc.out HPn.out HPB.out).mono ?_
 rintro e w2 ⟨v, u, rfl, hoI, hoK, b2⟩
 obtain ⟨ia, il, ic, rfl⟩ : ∃ a n c, v = .slice a n c := by obtain ⟨a, c, e, -⟩ := hoI.slice; exact ⟨a, _, c, e⟩
 obtain ⟨ka, kl, kc, rfl⟩ : ∃ a n c, u = .slice a n c := by obtain ⟨a, c, e, -⟩ := hoK.slice; exact ⟨a, _, c, e⟩
 obtain ⟨w3, hw3, V3, b3, z3⟩ := q0q w2 139 [.slice ia il ic, .slice ka kl kc]
 have b13 : Below w1.heap.size w1 w3 := on b2 b3
 have H3 : Hid _ := H1.out.below b13
 have R3 : Hid _ := V3
 have I3 : Hid (rItms.rd w3 (fun b => w1.heap.size ≤ b) [.slice ia il ic] (Tr.nod s ((q : Int) + 1)).1) := Rep.below (hoI.rd (by have := Lf.decodeN_len (Tr.page s ((q : Int) + 1)); show (Lf.decodeN _).1.length ≤ _; omega)) b3
 have K3 : Hid (rKids.rd w3 (fun b => w1.heap.size ≤ b) [.slice ka kl kc] (Tr.nod s ((q : Int) + 1)).2) := Rep.below (hoK.rd (by have := Lf.decodeN_len (Tr.page s ((q : Int) + 1)); show (Lf.decodeN _).2.length ≤ _; omega)) b3
 have Q3 : Hid (Quiet g gm oa on_ oc w w3) := ⟨b13.os.trans Q1.out.os, b13.tape.trans Q1.out.tape, b13.output.trans Q1.out.output, zw1 Q1.out.size b13.size, fun b hb => (b13.block b (by rw [HZ1.out]; exact hb.1)).trans (Q1.out.block b hb)⟩
 have HVa3 : Hid (IsBnd w3 (.slice xa na ca) lo) := HVa1.out.keep (fun r hr => b13.block r (HVa1.out.lt r hr))
 have HVb3 : Hid (IsBnd w3 (.slice xb nb cb) hi) := HVb1.out.keep (fun r hr => b13.block r (HVb1.out.lt r hr))
 have HZ3 : Hid (w.heap.size ≤ w2.heap.size) := by have := b2.size; rw [HZ1.out] at this; exact this
 have hgw : g < w.heap.size := H.out.row.lt
 have hg2 : g ≠ w2.heap.size := by have := HZ3.out; omega
 obtain ⟨E, hE⟩ : ∃ E, E = Lf.decodeE (Tr.page s ((q : Int) + 1)) := ⟨_, rfl⟩
 rw [← hE]
 have HE : Hid (E = Lf.decodeE (Tr.page s ((q : Int) + 1))) := hE
 obtain ⟨e0, e1, e2, e3, e4⟩ := H3.out.five
 have g4 := H3.out.row.frozen 4
 have HIl : Hid ((Tr.nod s ((q : Int) + 1)).1.length = il) := (q0x I3.out).1
 have HKl : Hid ((Tr.nod s ((q : Int) + 1)).2.length = kl) := (q0x K3.out).1
 have hil : il ≤ 3 := by rw [← HIl.out]; exact (Lf.decodeN_len _).1
 have hkl : kl ≤ 4 := by rw [← HKl.out]; exact (Lf.decodeN_len _).2
 have H4 : Hid (Walks (w3.setCell ⟨g, 4, none⟩ (.bool (E != 0))) g gm P (some ⟨pb, off, none⟩) pc oa on_ oc base s { k1 with bad := Tr.fault s ((q : Int) + 1) lo hi 0 }) := by
  rw [Tr.fault_zero, ← HE.out, show decide (E ≠ 0) = (E != 0) by cases h : (E != 0) <;> simp_all]
  exact H3.out.setBad A.out _
 clear hoI hoK b2 b3 b13 V3 z3 hE hw1 c0 c1 c2 c3 c4 cm fm d0 d1 d2 d3 d4 cp
 have BOX : Hid (∀ {wr : World}, Kept (· ≠ g) w3 wr → Row wr w2.heap.size 139 [.slice ia il ic, .slice ka kl kc]) := fun h => R3.out.keep (h.block _ (fun e => hg2 e.symm))
 have ITM : Hid (∀ {wr : World}, Kept (· ≠ g) w3 wr → rItms.rd wr (fun b => w1.heap.size ≤ b) [.slice ia il ic] (Tr.nod s ((q : Int) + 1)).1) := fun h => Rep.kept I3.out h (fun b hb _ => by have := HZ1.out; have := HS0.out; have := A.out.gb; omega)
 have BND : Hid (∀ {wr : World}, Kept (· ≠ g) w3 wr → IsBnd wr (.slice xa na ca) lo ∧ IsBnd wr (.slice xb nb cb) hi) := fun h => ⟨HVa3.out.keep (fun r hr => h.block r (HFr.out r (.inl hr)).1), HVb3.out.keep (fun r hr => h.block r (HFr.out r (.inr hr)).1)⟩
 have K4 : Hid (Kept (· ≠ g) w3 (w3.setCell ⟨g, 4, none⟩ (.bool (E != 0)))) := (Kept.refl _ w3).setCell (p := ⟨g, 4, none⟩) (fun h => h rfl) _
 go_wp2
 clear e0 e1 e2 e3 e4 g4 hw3
 go_loopw [12] (fun i wr => ∃ j : Nat, j ≤ il ∧ i = .int .i64 j ∧ Hid (Walks wr g gm P (some ⟨pb, off, none⟩) pc oa on_ oc base s { k1 with bad := Tr.fault s ((q : Int) + 1) lo hi j }) ∧ Hid (Kept (· ≠ g) w3 wr)) (fun i _ => il - (intOf i).toNat)
 case atStart => exact ⟨0, Nat.zero_le _, rfl, H4, K4⟩
 case round =>
  clear H4 K4
  obtain ⟨j, hj, rfl, HWr, HKr⟩ := hrel
  obtain ⟨e0, e1, e2, e3, e4⟩ := HWr.out.five
  have g4 := HWr.out.row.frozen 4
  obtain ⟨n0, n1⟩ := (BOX.out HKr.out).two
  by_cases hlt : j < il
  · have hjl : j < (Tr.nod s ((q : Int) + 1)).1.length := by rw [HIl.out]; exact hlt
    obtain ⟨g1, off1, rfl, -, -, hat⟩ := q0Z (ITM.out HKr.out) (by omega)
    obtain ⟨i0, i1⟩ := hat j hjl
    have HNx : Hid _ := Tr.fault_succ lo hi hjl
    obtain ⟨Y, hY⟩ : ∃ Y, Y = (Tr.nod s ((q : Int) + 1)).1[j] := ⟨_, rfl⟩
    rw [← hY] at i0 i1 HNx
    clear hat hY
    have hjz : (j : Int) < (il : Int) := by omega
    have HBa : Hid _ := BND.out HKr.out
    cases hbj : Tr.fault s ((q : Int) + 1) lo hi j
    · rw [hbj] at e4
      rcases HLo.out with ⟨h2, rfl, rfl, rfl⟩ | ⟨a, qa, h2, rfl, rfl, rfl⟩
      · have hab : Tr.above lo Y.1 = true := by rw [h2]; rfl
        rcases HHi.out with ⟨h1, rfl, rfl, rfl⟩ | ⟨b, qb, h1, rfl, rfl, rfl⟩
        · have hun : Tr.under hi Y.1 = true := by rw [h1]; rfl
          have HN : Hid (Tr.fault s ((q : Int) + 1) lo hi (j + 1) = false) := by unfold Hid; rw [HNx.out, hbj]; show (false || !(Tr.above lo Y.1 && Tr.under hi Y.1)) = false; rw [hab, hun]; rfl
          have HW5 : Hid (Walks (wr.setCell ⟨g, 4, none⟩ (.bool false)) g gm P (some ⟨pb, off, none⟩) pc oa on_ oc base s { k1 with bad := Tr.fault s ((q : Int) + 1) lo hi (j + 1) }) := by rw [HN.out]; exact HWr.out.setBad A.out false
          have HK5 : Hid (Kept (· ≠ g) w3 (wr.setCell ⟨g, 4, none⟩ (.bool false))) := HKr.out.setCell (p := ⟨g, 4, none⟩) (fun h => h rfl) _
          clear HNx hbj
          go_wp2
          go_roundw
          case rel => exact ⟨j + 1, by omega, by go_num, HW5, HK5⟩
          case measure => simp [intOf]; omega
        · have hcb := (HBa.out.2 : IsBnd wr _ hi)
          rw [h1] at hcb
          have cb := hcb.cell
          clear hcb
          by_cases hge : b.toNat ≤ Y.1.toNat
          · have hun : Tr.under hi Y.1 = false := by rw [h1]; unfold Tr.under; simp; omega
            have hgz : (Y.1.toNat : Int) ≥ (b.toNat : Int) := by omega
            have HN : Hid (Tr.fault s ((q : Int) + 1) lo hi (j + 1) = true) := by unfold Hid; rw [HNx.out, hbj]; show (false || !(Tr.above lo Y.1 && Tr.under hi Y.1)) = true; rw [hab, hun]; rfl
            have HW5 : Hid (Walks (wr.setCell ⟨g, 4, none⟩ (.bool true)) g gm P (some ⟨pb, off, none⟩) pc oa on_ oc base s { k1 with bad := Tr.fault s ((q : Int) + 1) lo hi (j + 1) }) := by rw [HN.out]; exact HWr.out.setBad A.out true
            have HK5 : Hid (Kept (· ≠ g) w3 (wr.setCell ⟨g, 4, none⟩ (.bool true))) := HKr.out.setCell (p := ⟨g, 4, none⟩) (fun h => h rfl) _
            clear HNx hbj
            go_wp2
            go_roundw
            case rel => exact ⟨j + 1, by omega, by go_num, HW5, HK5⟩
            case measure => simp [intOf]; omega
          · have hun : Tr.under hi Y.1 = true := by rw [h1]; unfold Tr.under; simp; omega
            have hgz : ¬ (Y.1.toNat : Int) ≥ (b.toNat : Int) := by omega
            have HN : Hid (Tr.fault s ((q : Int) + 1) lo hi (j + 1) = false) := by unfold Hid; rw [HNx.out, hbj]; show (false || !(Tr.above lo Y.1 && Tr.under hi Y.1)) = false; rw [hab, hun]; rfl
            have HW5 : Hid (Walks (wr.setCell ⟨g, 4, none⟩ (.bool false)) g gm P (some ⟨pb, off, none⟩) pc oa on_ oc base s { k1 with bad := Tr.fault s ((q : Int) + 1) lo hi (j + 1) }) := by rw [HN.out]; exact HWr.out.setBad A.out false
            have HK5 : Hid (Kept (· ≠ g) w3 (wr.setCell ⟨g, 4, none⟩ (.bool false))) := HKr.out.setCell (p := ⟨g, 4, none⟩) (fun h => h rfl) _
            clear HNx hbj
            go_wp2
            go_roundw
            case rel => exact ⟨j + 1, by omega, by go_num, HW5, HK5⟩
            case measure => simp [intOf]; omega
      · have hca := (HBa.out.1 : IsBnd wr _ lo)
        rw [h2] at hca
        have ca := hca.cell
        clear hca
        by_cases hlow : Y.1.toNat < a.toNat
        · have hab : Tr.above lo Y.1 = false := by rw [h2]; unfold Tr.above; simp; omega
          have hlz2 : (Y.1.toNat : Int) < (a.toNat : Int) := by omega
          have HN : Hid (Tr.fault s ((q : Int) + 1) lo hi (j + 1) = true) := by unfold Hid; rw [HNx.out, hbj]; show (false || !(Tr.above lo Y.1 && Tr.under hi Y.1)) = true; rw [hab]; rfl
          have HW5 : Hid (Walks (wr.setCell ⟨g, 4, none⟩ (.bool true)) g gm P (some ⟨pb, off, none⟩) pc oa on_ oc base s { k1 with bad := Tr.fault s ((q : Int) + 1) lo hi (j + 1) }) := by rw [HN.out]; exact HWr.out.setBad A.out true
          have HK5 : Hid (Kept (· ≠ g) w3 (wr.setCell ⟨g, 4, none⟩ (.bool true))) := HKr.out.setCell (p := ⟨g, 4, none⟩) (fun h => h rfl) _
          clear HNx hbj
          go_wp2
          go_roundw
          case rel => exact ⟨j + 1, by omega, by go_num, HW5, HK5⟩
          case measure => simp [intOf]; omega
        · have hab : Tr.above lo Y.1 = true := by rw [h2]; unfold Tr.above; simp; omega
          have hlz2 : ¬ (Y.1.toNat : Int) < (a.toNat : Int) := by omega
          rcases HHi.out with ⟨h1, rfl, rfl, rfl⟩ | ⟨b, qb, h1, rfl, rfl, rfl⟩
          · have hun : Tr.under hi Y.1 = true := by rw [h1]; rfl
            have HN : Hid (Tr.fault s ((q : Int) + 1) lo hi (j + 1) = false) := by unfold Hid; rw [HNx.out, hbj]; show (false || !(Tr.above lo Y.1 && Tr.under hi Y.1)) = false; rw [hab, hun]; rfl
            have HW5 : Hid (Walks (wr.setCell ⟨g, 4, none⟩ (.bool false)) g gm P (some ⟨pb, off, none⟩) pc oa on_ oc base s { k1 with bad := Tr.fault s ((q : Int) + 1) lo hi (j + 1) }) := by rw [HN.out]; exact HWr.out.setBad A.out false
            have HK5 : Hid (Kept (· ≠ g) w3 (wr.setCell ⟨g, 4, none⟩ (.bool false))) := HKr.out.setCell (p := ⟨g, 4, none⟩) (fun h => h rfl) _
            clear HNx hbj
            go_wp2
            go_roundw
            case rel => exact ⟨j + 1, by omega, by go_num, HW5, HK5⟩
            case measure => simp [intOf]; omega
          · have hcb := (HBa.out.2 : IsBnd wr _ hi)
            rw [h1] at hcb
            have cb := hcb.cell
            clear hcb
            by_cases hge : b.toNat ≤ Y.1.toNat
            · have hun : Tr.under hi Y.1 = false := by rw [h1]; unfold Tr.under; simp; omega
              have hgz : (Y.1.toNat : Int) ≥ (b.toNat : Int) := by omega
              have HN : Hid (Tr.fault s ((q : Int) + 1) lo hi (j + 1) = true) := by unfold Hid; rw [HNx.out, hbj]; show (false || !(Tr.above lo Y.1 && Tr.under hi Y.1)) = true; rw [hab, hun]; rfl
              have HW5 : Hid (Walks (wr.setCell ⟨g, 4, none⟩ (.bool true)) g gm P (some ⟨pb, off, none⟩) pc oa on_ oc base s { k1 with bad := Tr.fault s ((q : Int) + 1) lo hi (j + 1) }) := by rw [HN.out]; exact HWr.out.setBad A.out true
              have HK5 : Hid (Kept (· ≠ g) w3 (wr.setCell ⟨g, 4, none⟩ (.bool true))) := HKr.out.setCell (p := ⟨g, 4, none⟩) (fun h => h rfl) _
              clear HNx hbj
              go_wp2
              go_roundw
              case rel => exact ⟨j + 1, by omega, by go_num, HW5, HK5⟩
              case measure => simp [intOf]; omega
            · have hun : Tr.under hi Y.1 = true := by rw [h1]; unfold Tr.under; simp; omega
              have hgz : ¬ (Y.1.toNat : Int) ≥ (b.toNat : Int) := by omega
              have HN : Hid (Tr.fault s ((q : Int) + 1) lo hi (j + 1) = false) := by unfold Hid; rw [HNx.out, hbj]; show (false || !(Tr.above lo Y.1 && Tr.under hi Y.1)) = false; rw [hab, hun]; rfl
              have HW5 : Hid (Walks (wr.setCell ⟨g, 4, none⟩ (.bool false)) g gm P (some ⟨pb, off, none⟩) pc oa on_ oc base s { k1 with bad := Tr.fault s ((q : Int) + 1) lo hi (j + 1) }) := by rw [HN.out]; exact HWr.out.setBad A.out false
              have HK5 : Hid (Kept (· ≠ g) w3 (wr.setCell ⟨g, 4, none⟩ (.bool false))) := HKr.out.setCell (p := ⟨g, 4, none⟩) (fun h => h rfl) _
              clear HNx hbj
              go_wp2
              go_roundw
              case rel => exact ⟨j + 1, by omega, by go_num, HW5, HK5⟩
              case measure => simp [intOf]; omega
    · rw [hbj] at e4
      have HN : Hid (Tr.fault s ((q : Int) + 1) lo hi (j + 1) = true) := by unfold Hid; rw [HNx.out, hbj]; rfl
      have HW5 : Hid (Walks (wr.setCell ⟨g, 4, none⟩ (.bool true)) g gm P (some ⟨pb, off, none⟩) pc oa on_ oc base s { k1 with bad := Tr.fault s ((q : Int) + 1) lo hi (j + 1) }) := by rw [HN.out]; exact HWr.out.setBad A.out true
      have HK5 : Hid (Kept (· ≠ g) w3 (wr.setCell ⟨g, 4, none⟩ (.bool true))) := HKr.out.setCell (p := ⟨g, 4, none⟩) (fun h => h rfl) _
      clear HNx hbj
      go_wp2
      go_roundw
      case rel => exact ⟨j + 1, by omega, by go_num, HW5, HK5⟩
      case measure => simp [intOf]; omega
  · obtain rfl : il = j := by omega
    have HFa : Hid (Tr.fault s ((q : Int) + 1) lo hi il = !Tr.good s ((q : Int) + 1) lo hi) := by have h := Tr.fault_all s ((q : Int) + 1) lo hi; rw [HIl.out] at h; exact h
    rw [HFa.out] at HWr e4
    rw [HG.out] at HWr e4
    have hk0 : ((kl : Int) == 0) = true := by have h := HKl.out; rw [HKn.out] at h; simp only [List.length_nil] at h; rw [beq_iff_eq]; omega
    obtain ⟨L, hL⟩ : ∃ L : Nat, L = 16 - f := ⟨_, rfl⟩
    obtain rfl : lv = (L : Int) := by have := HLv.out; omega
    have HLL : Hid (L = 16 - f) := hL
    clear hL
    have HK1l : Hid (k1.leaf = k.leaf) := by rw [HK1.out]; rfl
    have HO1 : Hid (k1.out = k.out) := by rw [HK1.out]; rfl
    by_cases hL0 : k1.leaf = 0
    · have HEq : Hid (Tr.node s (f + 1) ((q : Int) + 1) lo hi k = { k1 with bad := false, leaf := L, out := k1.out ++ (Tr.nod s ((q : Int) + 1)).1 }) := by
       unfold Hid Tr.node
       rw [HLL.out, if_pos HO.out, HG.out, if_pos rfl, if_pos HKn.out, show (decide (0 < k.leaf) && decide (k.leaf ≠ 16 - f)) = false by rw [← HK1l.out, hL0]; rfl, HK1.out, show ((q : Int) + 1).toNat - 1 = q by omega]
      have e3n : wr.cell? ⟨g, 3, none⟩ = some (.int .i64 0) := by have h := e3; simp only [hL0] at h; exact h
      clear hL0 e3
      obtain ⟨w5, hw5⟩ : ∃ w5, wr.setCell ⟨g, 4, none⟩ (.bool false) = w5 := ⟨_, rfl⟩
      obtain ⟨w6, hw6⟩ : ∃ w6, w5.setCell ⟨g, 3, none⟩ (.int .i64 (L : Int)) = w6 := ⟨_, rfl⟩
      have H5 : Hid (Walks w5 g gm P (some ⟨pb, off, none⟩) pc oa on_ oc base s { k1 with bad := false }) := by rw [← hw5]; exact HWr.out.setBad A.out false
      have H6 : Hid (Walks w6 g gm P (some ⟨pb, off, none⟩) pc oa on_ oc base s { k1 with bad := false, leaf := L }) := by rw [← hw6]; exact H5.out.setLeaf A.out L
      have K6 : Hid (Kept (· ≠ g) w3 w6) := by rw [← hw6, ← hw5]; exact (HKr.out.setCell (p := ⟨g, 4, none⟩) (fun h => h rfl) _).setCell (p := ⟨g, 3, none⟩) (fun h => h rfl) _
      obtain ⟨y0, y1, y2, y3, y4⟩ := H5.out.five
      have y5 := H5.out.row.frozen 3
      have y6 := H5.out.row.frozen 4
      obtain ⟨x0, x1, x2, x3, x4⟩ := H6.out.five
      obtain ⟨m0, m1⟩ := (BOX.out K6.out).two
      have hsz6 : base ≤ w6.heap.size := zw1 HS0.out (zw1 Q3.out.size K6.out.size)
      have hol : k1.out.length ≤ 6144 := by have h1 := HF0.out; have h2 := metN_le k.met; have h3 := H.out.len; rw [HO1.out]; omega
      obtain ⟨v7, w7, hr7, ho7, gr7⟩ := q3q (w := w6.drew) (l := k1.out) (H6.out.out.keep (fun _ _ _ => rfl)) (Rep.below (ITM.out K6.out) (Below.refl _ w6).drew) (by omega) hsz6 36
      obtain ⟨a7, n7, c7, rfl⟩ : ∃ a n c, v7 = .slice a n c := by obtain ⟨a, c, e, -⟩ := ho7.slice; exact ⟨a, _, c, e⟩
      have HRun : Hid _ := hr7
      have hI3 : (Tr.nod s ((q : Int) + 1)).1.length ≤ 3 := (Lf.decodeN_len _).1
      have H6d : Hid (Walks w6.drew g gm P (some ⟨pb, off, none⟩) pc oa on_ oc base s { k1 with bad := false, leaf := L }) := H6.out.below (Below.refl _ w6).drew
      have H8 : Hid (Walks (w7.setCell ⟨g, 2, none⟩ (.slice a7 n7 c7)) g gm P (some ⟨pb, off, none⟩) pc a7 n7 c7 base s { k1 with bad := false, leaf := L, out := k1.out ++ (Tr.nod s ((q : Int) + 1)).1 }) :=
       H6d.out.grow A.out ho7 gr7 (by have h1 := HF0.out; have h2 := HMn.out; simp only [zw2]; rw [HO1.out]; omega)
      have Q8 : Hid (Quiet g gm oa on_ oc w (w7.setCell ⟨g, 2, none⟩ (.slice a7 n7 c7))) := Kept.setCell (p := ⟨g, 2, none⟩) ⟨gr7.grown.os.trans (K6.out.os.trans Q3.out.os), gr7.grown.tape.trans (K6.out.tape.trans Q3.out.tape), gr7.grown.output.trans (K6.out.output.trans Q3.out.output), zw1 Q3.out.size (zw1 K6.out.size gr7.grown.size), fun b hb => (gr7.grown.block b (Nat.lt_of_lt_of_le hb.1 (zw1 Q3.out.size K6.out.size)) (fun e => hb.2.2.2 e.symm)).trans ((K6.out.block b hb.2.1).trans (Q3.out.block b hb))⟩ (fun h => h.2.1 rfl) _
      have PL8 : Hid (∀ r, (Value.slice a7 n7 c7).ownBlock = some r → (Value.slice oa on_ oc).ownBlock = some r ∨ w.heap.size ≤ r) := fun r hr => (gr7.place r hr).imp id (fun h => zw1 (zw1 Q3.out.size K6.out.size) h)
      have o0 := (H6d.out.row.grew gr7 (fun e => by have := (H6d.out.ownLt g e).1; have := A.out.gb; omega)).frozen 2
      have o1 := (H6d.out.row.grew gr7 (fun e => by have := (H6d.out.ownLt g e).1; have := A.out.gb; omega)).cell (j := 2) rfl
      clear hr7 ho7 gr7
      go_wp2_with fail
      refine wp_region_held_drew (S := (fun _ : World => True)) (by kernel_rfl) (trivial) (fun hH => ?_)
      refine tkM 0 _ rfl rfl ?_; simp only [sz, ss]
      refine tkM 1 _ rfl rfl ?_; simp only [sz, ss]
      refine tkM 2 _ rfl rfl ?_; simp only [sz, ss]
      refine tkM 3 _ rfl rfl ?_; simp only [sz, ss]
      refine tkM 5 _ rfl rfl ?_; simp only [sz, ss]
      refine rdL [4, 6] ?_
      refine rcL (fun K hK => ?_) ?_
      · go_simp
        refine hK.out _ _ ?_ (fun hH => ?_)
        · try dsimp only
          all_goals trivial
        clear hK K
        refine r1L 6 rfl fun K hK => ?_
        · go_simp
          refine hK.out _ _ ?_ (fun hH => ?_)
          · try dsimp only
            all_goals trivial
          clear hK K
          refine r1L 7 rfl fun K hK => ?_
          · refine q1z rfl (by rfl) _ _ _ rfl _ _ _ rfl rfl HRun.out ?_
            simp only [sz, ss]
            refine hK.out _ _ ?_ (fun hH => ?_)
            · try dsimp only
              all_goals trivial
            clear hK K
            refine tkM 8 _ rfl rfl ?_; simp only [sz, ss]
            refine tkM 9 _ rfl rfl ?_; simp only [sz, ss]
            refine r1L 10 rfl fun K hK => ?_
            · go_simp
              refine hK.out _ _ ?_ (fun hH => ?_)
              · try dsimp only
                all_goals trivial
              clear hK K
              refine wpAnyH_done (by kernel_rfl) ?_ _
              clear hH
              go_wp2
              (try simp only [Exit.inBlock, Exit.then])
              refine bodyPost_ret (results_none rfl _ _ _) rfl ?_
              exact NodeDone.of ⟨a7, n7, c7, rfl, by rw [HEq.out]; exact H8.out, Q8.out, PL8.out⟩
      refine rcL (fun K hK => ?_) ?_
      · go_simp
        refine hK.out _ _ ?_ (fun hH => ?_)
        · try dsimp only
          all_goals trivial
        clear hK K
        refine r1L 4 rfl fun K hK => ?_
        · go_simp
          refine hK.out _ _ ?_ (fun hH => ?_)
          · try dsimp only
            all_goals trivial
          clear hK K
          refine r1L 7 rfl fun K hK => ?_
          · refine q1z rfl (by rfl) _ _ _ rfl _ _ _ rfl rfl HRun.out ?_
            simp only [sz, ss]
            refine hK.out _ _ ?_ (fun hH => ?_)
            · try dsimp only
              all_goals trivial
            clear hK K
            refine tkM 8 _ rfl rfl ?_; simp only [sz, ss]
            refine tkM 9 _ rfl rfl ?_; simp only [sz, ss]
            refine r1L 10 rfl fun K hK => ?_
            · go_simp
              refine hK.out _ _ ?_ (fun hH => ?_)
              · try dsimp only
                all_goals trivial
              clear hK K
              refine wpAnyH_done (by kernel_rfl) ?_ _
              clear hH
              go_wp2
              (try simp only [Exit.inBlock, Exit.then])
              refine bodyPost_ret (results_none rfl _ _ _) rfl ?_
              exact NodeDone.of ⟨a7, n7, c7, rfl, by rw [HEq.out]; exact H8.out, Q8.out, PL8.out⟩
      exact rnL
    · obtain ⟨X, hX⟩ : ∃ X : Bool, ((k1.leaf : Int) != (L : Int)) = X := ⟨_, rfl⟩
      obtain ⟨lf, hlf⟩ : ∃ lf : Nat, lf = k1.leaf := ⟨_, rfl⟩
      have HEq : Hid (Tr.node s (f + 1) ((q : Int) + 1) lo hi k = { k1 with bad := X, leaf := L, out := k1.out ++ (Tr.nod s ((q : Int) + 1)).1 }) := by
       have hX2 : (decide (0 < k.leaf) && decide (k.leaf ≠ 16 - f)) = X := by
        rw [← HK1l.out, decide_eq_true (show 0 < k1.leaf by omega), Bool.true_and, ← hX, Bool.eq_iff_iff, decide_eq_true_eq, bne_iff_ne]
        have := HLL.out
        omega
       unfold Hid Tr.node
       rw [HLL.out, if_pos HO.out, HG.out, if_pos rfl, if_pos HKn.out, hX2, HK1.out, show ((q : Int) + 1).toNat - 1 = q by omega]
      have e3n : wr.cell? ⟨g, 3, none⟩ = some (.int .i64 (lf : Int)) := by rw [hlf]; exact e3
      have hLz : (lf : Int) > 0 := by omega
      rw [← hlf] at hX
      clear hL0 hlf e3
      obtain ⟨w5, hw5⟩ : ∃ w5, wr.setCell ⟨g, 4, none⟩ (.bool X) = w5 := ⟨_, rfl⟩
      obtain ⟨w6, hw6⟩ : ∃ w6, w5.setCell ⟨g, 3, none⟩ (.int .i64 (L : Int)) = w6 := ⟨_, rfl⟩
      have H5 : Hid (Walks w5 g gm P (some ⟨pb, off, none⟩) pc oa on_ oc base s { k1 with bad := X }) := by rw [← hw5]; exact HWr.out.setBad A.out X
      have H6 : Hid (Walks w6 g gm P (some ⟨pb, off, none⟩) pc oa on_ oc base s { k1 with bad := X, leaf := L }) := by rw [← hw6]; exact H5.out.setLeaf A.out L
      have K6 : Hid (Kept (· ≠ g) w3 w6) := by rw [← hw6, ← hw5]; exact (HKr.out.setCell (p := ⟨g, 4, none⟩) (fun h => h rfl) _).setCell (p := ⟨g, 3, none⟩) (fun h => h rfl) _
      obtain ⟨y0, y1, y2, y3, y4⟩ := H5.out.five
      have y5 := H5.out.row.frozen 3
      have y6 := H5.out.row.frozen 4
      obtain ⟨x0, x1, x2, x3, x4⟩ := H6.out.five
      obtain ⟨m0, m1⟩ := (BOX.out K6.out).two
      have hsz6 : base ≤ w6.heap.size := zw1 HS0.out (zw1 Q3.out.size K6.out.size)
      have hol : k1.out.length ≤ 6144 := by have h1 := HF0.out; have h2 := metN_le k.met; have h3 := H.out.len; rw [HO1.out]; omega
      obtain ⟨v7, w7, hr7, ho7, gr7⟩ := q3q (w := w6.drew) (l := k1.out) (H6.out.out.keep (fun _ _ _ => rfl)) (Rep.below (ITM.out K6.out) (Below.refl _ w6).drew) (by omega) hsz6 36
      obtain ⟨a7, n7, c7, rfl⟩ : ∃ a n c, v7 = .slice a n c := by obtain ⟨a, c, e, -⟩ := ho7.slice; exact ⟨a, _, c, e⟩
      have HRun : Hid _ := hr7
      have hI3 : (Tr.nod s ((q : Int) + 1)).1.length ≤ 3 := (Lf.decodeN_len _).1
      have H6d : Hid (Walks w6.drew g gm P (some ⟨pb, off, none⟩) pc oa on_ oc base s { k1 with bad := X, leaf := L }) := H6.out.below (Below.refl _ w6).drew
      have H8 : Hid (Walks (w7.setCell ⟨g, 2, none⟩ (.slice a7 n7 c7)) g gm P (some ⟨pb, off, none⟩) pc a7 n7 c7 base s { k1 with bad := X, leaf := L, out := k1.out ++ (Tr.nod s ((q : Int) + 1)).1 }) :=
       H6d.out.grow A.out ho7 gr7 (by have h1 := HF0.out; have h2 := HMn.out; simp only [zw2]; rw [HO1.out]; omega)
      have Q8 : Hid (Quiet g gm oa on_ oc w (w7.setCell ⟨g, 2, none⟩ (.slice a7 n7 c7))) := Kept.setCell (p := ⟨g, 2, none⟩) ⟨gr7.grown.os.trans (K6.out.os.trans Q3.out.os), gr7.grown.tape.trans (K6.out.tape.trans Q3.out.tape), gr7.grown.output.trans (K6.out.output.trans Q3.out.output), zw1 Q3.out.size (zw1 K6.out.size gr7.grown.size), fun b hb => (gr7.grown.block b (Nat.lt_of_lt_of_le hb.1 (zw1 Q3.out.size K6.out.size)) (fun e => hb.2.2.2 e.symm)).trans ((K6.out.block b hb.2.1).trans (Q3.out.block b hb))⟩ (fun h => h.2.1 rfl) _
      have PL8 : Hid (∀ r, (Value.slice a7 n7 c7).ownBlock = some r → (Value.slice oa on_ oc).ownBlock = some r ∨ w.heap.size ≤ r) := fun r hr => (gr7.place r hr).imp id (fun h => zw1 (zw1 Q3.out.size K6.out.size) h)
      have o0 := (H6d.out.row.grew gr7 (fun e => by have := (H6d.out.ownLt g e).1; have := A.out.gb; omega)).frozen 2
      have o1 := (H6d.out.row.grew gr7 (fun e => by have := (H6d.out.ownLt g e).1; have := A.out.gb; omega)).cell (j := 2) rfl
      clear hr7 ho7 gr7
      go_wp2_with fail
      refine wp_region_held_drew (S := (fun _ : World => True)) (by kernel_rfl) (trivial) (fun hH => ?_)
      refine tkM 0 _ rfl rfl ?_; simp only [sz, ss]
      refine tkM 1 _ rfl rfl ?_; simp only [sz, ss]
      refine tkM 2 _ rfl rfl ?_; simp only [sz, ss]
      refine tkM 3 _ rfl rfl ?_; simp only [sz, ss]
      refine tkM 5 _ rfl rfl ?_; simp only [sz, ss]
      refine rdL [4, 6] ?_
      refine rcL (fun K hK => ?_) ?_
      · go_simp
        refine hK.out _ _ ?_ (fun hH => ?_)
        · try dsimp only
          all_goals trivial
        clear hK K
        refine r1L 6 rfl fun K hK => ?_
        · go_simp
          refine hK.out _ _ ?_ (fun hH => ?_)
          · try dsimp only
            all_goals trivial
          clear hK K
          refine r1L 7 rfl fun K hK => ?_
          · refine q1z rfl (by rfl) _ _ _ rfl _ _ _ rfl rfl HRun.out ?_
            simp only [sz, ss]
            refine hK.out _ _ ?_ (fun hH => ?_)
            · try dsimp only
              all_goals trivial
            clear hK K
            refine tkM 8 _ rfl rfl ?_; simp only [sz, ss]
            refine tkM 9 _ rfl rfl ?_; simp only [sz, ss]
            refine r1L 10 rfl fun K hK => ?_
            · go_simp
              refine hK.out _ _ ?_ (fun hH => ?_)
              · try dsimp only
                all_goals trivial
              clear hK K
              refine wpAnyH_done (by kernel_rfl) ?_ _
              clear hH
              go_wp2
              (try simp only [Exit.inBlock, Exit.then])
              refine bodyPost_ret (results_none rfl _ _ _) rfl ?_
              exact NodeDone.of ⟨a7, n7, c7, rfl, by rw [HEq.out]; exact H8.out, Q8.out, PL8.out⟩
      refine rcL (fun K hK => ?_) ?_
      · go_simp
        refine hK.out _ _ ?_ (fun hH => ?_)
        · try dsimp only
          all_goals trivial
        clear hK K
        refine r1L 4 rfl fun K hK => ?_
        · go_simp
          refine hK.out _ _ ?_ (fun hH => ?_)
          · try dsimp only
            all_goals trivial
          clear hK K
          refine r1L 7 rfl fun K hK => ?_
          · refine q1z rfl (by rfl) _ _ _ rfl _ _ _ rfl rfl HRun.out ?_
            simp only [sz, ss]
            refine hK.out _ _ ?_ (fun hH => ?_)
            · try dsimp only
              all_goals trivial
            clear hK K
            refine tkM 8 _ rfl rfl ?_; simp only [sz, ss]
            refine tkM 9 _ rfl rfl ?_; simp only [sz, ss]
            refine r1L 10 rfl fun K hK => ?_
            · go_simp
              refine hK.out _ _ ?_ (fun hH => ?_)
              · try dsimp only
                all_goals trivial
              clear hK K
              refine wpAnyH_done (by kernel_rfl) ?_ _
              clear hH
              go_wp2
              (try simp only [Exit.inBlock, Exit.then])
              refine bodyPost_ret (results_none rfl _ _ _) rfl ?_
              exact NodeDone.of ⟨a7, n7, c7, rfl, by rw [HEq.out]; exact H8.out, Q8.out, PL8.out⟩
      exact rnL
set_option maxRecDepth 20000 in
theorem node_kids (s : Pgs) (hs : s.length ≤ 2048) (f : Nat) (hf : f < 16) (hIH : NodeSaid s f) (w : World) (B g gm : Nat) (P : Nat → Prop) (pa : Option Addr) (pc : Nat) (oa : Option Addr) (on_ oc base : Nat) (k : Tr.Wk) (p : Int) (lv : Int) (lo hi : Bnd) (va vb : Value)
 (hlv : lv = 17 - ((f + 1 : Nat) : Int)) (hA : qTj P B g gm base) (hW : Walks w g gm P pa pc oa on_ oc base s k) (hVa : IsBnd w va lo) (hVb : IsBnd w vb hi) (hFr : ∀ q, va.ownBlock = some q ∨ vb.ownBlock = some q → q ≠ g ∧ q ≠ gm ∧ (Value.slice oa on_ oc).ownBlock ≠ some q) (hbs : base ≤ w.heap.size) (hp0 : -9223372036854775808 ≤ p) (hp1 : p ≤ 9223372036854775807) (ho : Tr.open_ s p k = true) (hg : Tr.good s p lo hi = true) (hkn : (Tr.nod s p).2 ≠ []):
 Calls Tryz.prog 61 #[.pointer (some ⟨g, 0, none⟩), .int .i64 p, .int .i64 lv, va, vb] w fun e w' => NodeDone s (f + 1) g gm P pa pc oa on_ oc base k p lo hi w e w' := by
 have HG0 : Hid _ := hg
 have HKn0 : Hid _ := hkn
 have IH : Hid (NodeSaid s f) := hIH
 clear hg hkn hIH
 obtain ⟨hb, p1, p2, hmet⟩ := Tr.open_iff.1 ho
 obtain ⟨q, hq⟩ := Int.eq_ofNat_of_zero_le (show 0 ≤ p - 1 by omega)
 obtain rfl : p = (q : Int) + 1 := by omega
 have HG : Hid (Tr.good s ((q : Int) + 1) lo hi = true) := HG0.out
 have HKn : Hid ((Tr.nod s ((q : Int) + 1)).2 ≠ []) := HKn0.out
 have hql : q < s.length := by omega
 have hlen : s.length ≤ 2048 := hs
 rw [show ((q : Int) + 1).toNat - 1 = q by omega] at hmet
 have A : Hid _ := hA
 have HO : Hid _ := ho
 have HS0 : Hid (base ≤ w.heap.size) := hbs
 obtain ⟨xa, na, ca, rfl, hLo⟩ := hVa.parts
 obtain ⟨xb, nb, cb, rfl, hHi⟩ := hVb.parts
 have HLa : Hid (∀ r, (Value.slice xa na ca).ownBlock = some r ∨ (Value.slice xb nb cb).ownBlock = some r → r < w.heap.size) := fun r h => h.elim (hVa.lt r) (hVb.lt r)
 have HLo : Hid _ := hLo
 have HHi : Hid _ := hHi
 have HFr : Hid _ := hFr
 have H : Hid _ := hW
 obtain ⟨c0, c1, c2, c3, c4⟩ := hW.five
 rw [hb] at c4
 have cm : w.cell? ⟨gm, q, none⟩ = some (.bool false) := by
  refine hW.met.cell ?_
  have hq' : q < k.met.length := by rw [hW.len]; exact hql
  rw [← hmet]
  simp [q5x, List.getD, zw3 hq']
 have fm := hW.met.frozen q
 obtain ⟨w1, hw1⟩ : ∃ w1, w.setCell ⟨gm, q, none⟩ (.bool true) = w1 := ⟨_, rfl⟩
 obtain ⟨k1, hk1⟩ : ∃ k1 : Tr.Wk, k1 = { k with met := k.met.set q true } := ⟨_, rfl⟩
 have HK1 : Hid _ := hk1
 have H1 : Hid (Walks w1 g gm P pa pc oa on_ oc base s k1) := by rw [← hw1, hk1]; exact hW.setMet hA q hql hmet
 have Q1 : Hid (Quiet g gm oa on_ oc w w1) := by rw [← hw1]; exact (Kept.refl _ w).setCell (p := ⟨gm, q, none⟩) (fun h => h.2.2.1 rfl) _
 have hz1 : w1.heap.size = w.heap.size := by rw [← hw1]; simp [World.setCell]
 have HZ1 : Hid _ := hz1
 have HMn : Hid (metN k1.met = metN k.met + 1) := by unfold Hid; rw [hk1]; exact qMQ k.met q (by rw [hW.len]; exact hql) hmet
 have HF0 : Hid (k.out.length ≤ 3 * metN k.met) := hW.few
 have HVa1 : Hid (IsBnd w1 (.slice xa na ca) lo) := hVa.keep (fun r hr => by rw [← hw1]; exact Below.heap_setCell _ _ _ _ (fun e => (hFr r (.inl hr)).2.1 e))
 have HVb1 : Hid (IsBnd w1 (.slice xb nb cb) hi) := hVb.keep (fun r hr => by rw [← hw1]; exact Below.heap_setCell _ _ _ _ (fun e => (hFr r (.inr hr)).2.1 e))
 obtain ⟨d0, d1, d2, d3, d4⟩ := H1.out.five
 obtain ⟨pb, off, rfl, -, -, hat⟩ := q8X H1.out.pages (by omega)
 obtain ⟨x, m, d, hpg, hml, cp⟩ := hat q hql
 have epg : s[q] = Tr.page s ((q : Int) + 1) := by unfold Tr.page; rw [show ((q : Int) + 1).toNat - 1 = q by omega]; simp [List.getD, zw3 hql]
 rw [epg] at hpg
 obtain ⟨hpB, hpc, hpn, hpm⟩ := q5Q hpg
 have HPB : Hid (IsB w1 x m (Tr.page s ((q : Int) + 1))) := hpB
 have HPc : Hid _ := hpc
 have HPn : Hid _ := hpn
 have HPm : Hid _ := hpm
 have hqz : (q : Int) < (s.length : Int) := by omega
 have hqy : ¬ (q : Int) + 1 > (s.length : Int) := by omega
 have hqx : ¬ (q : Int) + 1 < 1 := by omega
 have hlz : ¬ lv > 16 := by omega
 have hlz0 : 1 ≤ lv := by omega
 have HLv : Hid _ := hlv
 clear hA hW hVa hVb hFr hbs hLo hHi hb hmet hat hpg hml epg hpB hpc hpn hpm hq p1 p2 ho hk1 hz1 hlv
 clear hp0 hp1
 go_enter Tryz.func61, Tryz.ntmps61
 go_wp2_with fail
 refine (qGQ _ x m d (Tr.page s ((q : Int) + 1)) HPm.out HPc.out HPn.out HPB.out).mono ?_
 rintro e w2 ⟨v, u, rfl, hoI, hoK, b2⟩
 obtain ⟨ia, il, ic, rfl⟩ : ∃ a n c, v = .slice a n c := by obtain ⟨a, c, e, -⟩ := hoI.slice; exact ⟨a, _, c, e⟩
 obtain ⟨ka, kl, kc, rfl⟩ : ∃ a n c, u = .slice a n c := by obtain ⟨a, c, e, -⟩ := hoK.slice; exact ⟨a, _, c, e⟩
 obtain ⟨w3, hw3, V3, b3, z3⟩ := q0q w2 139 [.slice ia il ic, .slice ka kl kc]
 have b13 : Below w1.heap.size w1 w3 := on b2 b3
 have H3 : Hid _ := H1.out.below b13
 have R3 : Hid _ := V3
 have I3 : Hid (rItms.rd w3 (fun b => w1.heap.size ≤ b) [.slice ia il ic] (Tr.nod s ((q : Int) + 1)).1) := Rep.below (hoI.rd (by have := Lf.decodeN_len (Tr.page s ((q : Int) + 1)); show (Lf.decodeN _).1.length ≤ _; omega)) b3
 have K3 : Hid (rKids.rd w3 (fun b => w1.heap.size ≤ b) [.slice ka kl kc] (Tr.nod s ((q : Int) + 1)).2) := Rep.below (hoK.rd (by have := Lf.decodeN_len (Tr.page s ((q : Int) + 1)); show (Lf.decodeN _).2.length ≤ _; omega)) b3
 have Q3 : Hid (Quiet g gm oa on_ oc w w3) := ⟨b13.os.trans Q1.out.os, b13.tape.trans Q1.out.tape, b13.output.trans Q1.out.output, zw1 Q1.out.size b13.size, fun b hb => (b13.block b (by rw [HZ1.out]; exact hb.1)).trans (Q1.out.block b hb)⟩
 have HVa3 : Hid (IsBnd w3 (.slice xa na ca) lo) := HVa1.out.keep (fun r hr => b13.block r (HVa1.out.lt r hr))
 have HVb3 : Hid (IsBnd w3 (.slice xb nb cb) hi) := HVb1.out.keep (fun r hr => b13.block r (HVb1.out.lt r hr))
 have HZ3 : Hid (w.heap.size ≤ w2.heap.size) := by have := b2.size; rw [HZ1.out] at this; exact this
 have hgw : g < w.heap.size := H.out.row.lt
 have hg2 : g ≠ w2.heap.size := by have := HZ3.out; omega
 obtain ⟨E, hE⟩ : ∃ E, E = Lf.decodeE (Tr.page s ((q : Int) + 1)) := ⟨_, rfl⟩
 rw [← hE]
 have HE : Hid (E = Lf.decodeE (Tr.page s ((q : Int) + 1))) := hE
 obtain ⟨e0, e1, e2, e3, e4⟩ := H3.out.five
 have g4 := H3.out.row.frozen 4
 have HIl : Hid ((Tr.nod s ((q : Int) + 1)).1.length = il) := (q0x I3.out).1
 have HKl : Hid ((Tr.nod s ((q : Int) + 1)).2.length = kl) := (q0x K3.out).1
 have hil : il ≤ 3 := by rw [← HIl.out]; exact (Lf.decodeN_len _).1
 have hkl : kl ≤ 4 := by rw [← HKl.out]; exact (Lf.decodeN_len _).2
 have H4 : Hid (Walks (w3.setCell ⟨g, 4, none⟩ (.bool (E != 0))) g gm P (some ⟨pb, off, none⟩) pc oa on_ oc base s { k1 with bad := Tr.fault s ((q : Int) + 1) lo hi 0 }) := by
  rw [Tr.fault_zero, ← HE.out, show decide (E ≠ 0) = (E != 0) by cases h : (E != 0) <;> simp_all]
  exact H3.out.setBad A.out _
 clear hoI hoK b2 b3 b13 V3 z3 hE hw1 c0 c1 c2 c3 c4 cm fm d0 d1 d2 d3 d4 cp
 have BOX : Hid (∀ {wr : World}, Kept (· ≠ g) w3 wr → Row wr w2.heap.size 139 [.slice ia il ic, .slice ka kl kc]) := fun h => R3.out.keep (h.block _ (fun e => hg2 e.symm))
 have ITM : Hid (∀ {wr : World}, Kept (· ≠ g) w3 wr → rItms.rd wr (fun b => w1.heap.size ≤ b) [.slice ia il ic] (Tr.nod s ((q : Int) + 1)).1) := fun h => Rep.kept I3.out h (fun b hb _ => by have := HZ1.out; have := HS0.out; have := A.out.gb; omega)
 have BND : Hid (∀ {wr : World}, Kept (· ≠ g) w3 wr → IsBnd wr (.slice xa na ca) lo ∧ IsBnd wr (.slice xb nb cb) hi) := fun h => ⟨HVa3.out.keep (fun r hr => h.block r (HFr.out r (.inl hr)).1), HVb3.out.keep (fun r hr => h.block r (HFr.out r (.inr hr)).1)⟩
 have K4 : Hid (Kept (· ≠ g) w3 (w3.setCell ⟨g, 4, none⟩ (.bool (E != 0)))) := (Kept.refl _ w3).setCell (p := ⟨g, 4, none⟩) (fun h => h rfl) _
 go_wp2
 clear e0 e1 e2 e3 e4 g4 hw3
 go_loopw [12] (fun i wr => ∃ j : Nat, j ≤ il ∧ i = .int .i64 j ∧ Hid (Walks wr g gm P (some ⟨pb, off, none⟩) pc oa on_ oc base s { k1 with bad := Tr.fault s ((q : Int) + 1) lo hi j }) ∧ Hid (Kept (· ≠ g) w3 wr)) (fun i _ => il - (intOf i).toNat)
 case atStart => exact ⟨0, Nat.zero_le _, rfl, H4, K4⟩
 case round =>
  clear H4 K4
  obtain ⟨j, hj, rfl, HWr, HKr⟩ := hrel
  obtain ⟨e0, e1, e2, e3, e4⟩ := HWr.out.five
  have g4 := HWr.out.row.frozen 4
  obtain ⟨n0, n1⟩ := (BOX.out HKr.out).two
  by_cases hlt : j < il
  · have hjl : j < (Tr.nod s ((q : Int) + 1)).1.length := by rw [HIl.out]; exact hlt
    obtain ⟨g1, off1, rfl, -, -, hat⟩ := q0Z (ITM.out HKr.out) (by omega)
    obtain ⟨i0, i1⟩ := hat j hjl
    have HNx : Hid _ := Tr.fault_succ lo hi hjl
    obtain ⟨Y, hY⟩ : ∃ Y, Y = (Tr.nod s ((q : Int) + 1)).1[j] := ⟨_, rfl⟩
    rw [← hY] at i0 i1 HNx
    clear hat hY
    have hjz : (j : Int) < (il : Int) := by omega
    have HBa : Hid _ := BND.out HKr.out
    cases hbj : Tr.fault s ((q : Int) + 1) lo hi j
    · rw [hbj] at e4
      rcases HLo.out with ⟨h2, rfl, rfl, rfl⟩ | ⟨a, qa, h2, rfl, rfl, rfl⟩
      · have hab : Tr.above lo Y.1 = true := by rw [h2]; rfl
        rcases HHi.out with ⟨h1, rfl, rfl, rfl⟩ | ⟨b, qb, h1, rfl, rfl, rfl⟩
        · have hun : Tr.under hi Y.1 = true := by rw [h1]; rfl
          have HN : Hid (Tr.fault s ((q : Int) + 1) lo hi (j + 1) = false) := by unfold Hid; rw [HNx.out, hbj]; show (false || !(Tr.above lo Y.1 && Tr.under hi Y.1)) = false; rw [hab, hun]; rfl
          have HW5 : Hid (Walks (wr.setCell ⟨g, 4, none⟩ (.bool false)) g gm P (some ⟨pb, off, none⟩) pc oa on_ oc base s { k1 with bad := Tr.fault s ((q : Int) + 1) lo hi (j + 1) }) := by rw [HN.out]; exact HWr.out.setBad A.out false
          have HK5 : Hid (Kept (· ≠ g) w3 (wr.setCell ⟨g, 4, none⟩ (.bool false))) := HKr.out.setCell (p := ⟨g, 4, none⟩) (fun h => h rfl) _
          clear HNx hbj
          go_wp2
          go_roundw
          case rel => exact ⟨j + 1, by omega, by go_num, HW5, HK5⟩
          case measure => simp [intOf]; omega
        · have hcb := (HBa.out.2 : IsBnd wr _ hi)
          rw [h1] at hcb
          have cb := hcb.cell
          clear hcb
          by_cases hge : b.toNat ≤ Y.1.toNat
          · have hun : Tr.under hi Y.1 = false := by rw [h1]; unfold Tr.under; simp; omega
            have hgz : (Y.1.toNat : Int) ≥ (b.toNat : Int) := by omega
            have HN : Hid (Tr.fault s ((q : Int) + 1) lo hi (j + 1) = true) := by unfold Hid; rw [HNx.out, hbj]; show (false || !(Tr.above lo Y.1 && Tr.under hi Y.1)) = true; rw [hab, hun]; rfl
            have HW5 : Hid (Walks (wr.setCell ⟨g, 4, none⟩ (.bool true)) g gm P (some ⟨pb, off, none⟩) pc oa on_ oc base s { k1 with bad := Tr.fault s ((q : Int) + 1) lo hi (j + 1) }) := by rw [HN.out]; exact HWr.out.setBad A.out true
            have HK5 : Hid (Kept (· ≠ g) w3 (wr.setCell ⟨g, 4, none⟩ (.bool true))) := HKr.out.setCell (p := ⟨g, 4, none⟩) (fun h => h rfl) _
            clear HNx hbj
            go_wp2
            go_roundw
            case rel => exact ⟨j + 1, by omega, by go_num, HW5, HK5⟩
            case measure => simp [intOf]; omega
          · have hun : Tr.under hi Y.1 = true := by rw [h1]; unfold Tr.under; simp; omega
            have hgz : ¬ (Y.1.toNat : Int) ≥ (b.toNat : Int) := by omega
            have HN : Hid (Tr.fault s ((q : Int) + 1) lo hi (j + 1) = false) := by unfold Hid; rw [HNx.out, hbj]; show (false || !(Tr.above lo Y.1 && Tr.under hi Y.1)) = false; rw [hab, hun]; rfl
            have HW5 : Hid (Walks (wr.setCell ⟨g, 4, none⟩ (.bool false)) g gm P (some ⟨pb, off, none⟩) pc oa on_ oc base s { k1 with bad := Tr.fault s ((q : Int) + 1) lo hi (j + 1) }) := by rw [HN.out]; exact HWr.out.setBad A.out false
            have HK5 : Hid (Kept (· ≠ g) w3 (wr.setCell ⟨g, 4, none⟩ (.bool false))) := HKr.out.setCell (p := ⟨g, 4, none⟩) (fun h => h rfl) _
            clear HNx hbj
            go_wp2
            go_roundw
            case rel => exact ⟨j + 1, by omega, by go_num, HW5, HK5⟩
            case measure => simp [intOf]; omega
      · have hca := (HBa.out.1 : IsBnd wr _ lo)
        rw [h2] at hca
        have ca := hca.cell
        clear hca
        by_cases hlow : Y.1.toNat < a.toNat
        · have hab : Tr.above lo Y.1 = false := by rw [h2]; unfold Tr.above; simp; omega
          have hlz2 : (Y.1.toNat : Int) < (a.toNat : Int) := by omega
          have HN : Hid (Tr.fault s ((q : Int) + 1) lo hi (j + 1) = true) := by unfold Hid; rw [HNx.out, hbj]; show (false || !(Tr.above lo Y.1 && Tr.under hi Y.1)) = true; rw [hab]; rfl
          have HW5 : Hid (Walks (wr.setCell ⟨g, 4, none⟩ (.bool true)) g gm P (some ⟨pb, off, none⟩) pc oa on_ oc base s { k1 with bad := Tr.fault s ((q : Int) + 1) lo hi (j + 1) }) := by rw [HN.out]; exact HWr.out.setBad A.out true
          have HK5 : Hid (Kept (· ≠ g) w3 (wr.setCell ⟨g, 4, none⟩ (.bool true))) := HKr.out.setCell (p := ⟨g, 4, none⟩) (fun h => h rfl) _
          clear HNx hbj
          go_wp2
          go_roundw
          case rel => exact ⟨j + 1, by omega, by go_num, HW5, HK5⟩
          case measure => simp [intOf]; omega
        · have hab : Tr.above lo Y.1 = true := by rw [h2]; unfold Tr.above; simp; omega
          have hlz2 : ¬ (Y.1.toNat : Int) < (a.toNat : Int) := by omega
          rcases HHi.out with ⟨h1, rfl, rfl, rfl⟩ | ⟨b, qb, h1, rfl, rfl, rfl⟩
          · have hun : Tr.under hi Y.1 = true := by rw [h1]; rfl
            have HN : Hid (Tr.fault s ((q : Int) + 1) lo hi (j + 1) = false) := by unfold Hid; rw [HNx.out, hbj]; show (false || !(Tr.above lo Y.1 && Tr.under hi Y.1)) = false; rw [hab, hun]; rfl
            have HW5 : Hid (Walks (wr.setCell ⟨g, 4, none⟩ (.bool false)) g gm P (some ⟨pb, off, none⟩) pc oa on_ oc base s { k1 with bad := Tr.fault s ((q : Int) + 1) lo hi (j + 1) }) := by rw [HN.out]; exact HWr.out.setBad A.out false
            have HK5 : Hid (Kept (· ≠ g) w3 (wr.setCell ⟨g, 4, none⟩ (.bool false))) := HKr.out.setCell (p := ⟨g, 4, none⟩) (fun h => h rfl) _
            clear HNx hbj
            go_wp2
            go_roundw
            case rel => exact ⟨j + 1, by omega, by go_num, HW5, HK5⟩
            case measure => simp [intOf]; omega
          · have hcb := (HBa.out.2 : IsBnd wr _ hi)
            rw [h1] at hcb
            have cb := hcb.cell
            clear hcb
            by_cases hge : b.toNat ≤ Y.1.toNat
            · have hun : Tr.under hi Y.1 = false := by rw [h1]; unfold Tr.under; simp; omega
              have hgz : (Y.1.toNat : Int) ≥ (b.toNat : Int) := by omega
              have HN : Hid (Tr.fault s ((q : Int) + 1) lo hi (j + 1) = true) := by unfold Hid; rw [HNx.out, hbj]; show (false || !(Tr.above lo Y.1 && Tr.under hi Y.1)) = true; rw [hab, hun]; rfl
              have HW5 : Hid (Walks (wr.setCell ⟨g, 4, none⟩ (.bool true)) g gm P (some ⟨pb, off, none⟩) pc oa on_ oc base s { k1 with bad := Tr.fault s ((q : Int) + 1) lo hi (j + 1) }) := by rw [HN.out]; exact HWr.out.setBad A.out true
              have HK5 : Hid (Kept (· ≠ g) w3 (wr.setCell ⟨g, 4, none⟩ (.bool true))) := HKr.out.setCell (p := ⟨g, 4, none⟩) (fun h => h rfl) _
              clear HNx hbj
              go_wp2
              go_roundw
              case rel => exact ⟨j + 1, by omega, by go_num, HW5, HK5⟩
              case measure => simp [intOf]; omega
            · have hun : Tr.under hi Y.1 = true := by rw [h1]; unfold Tr.under; simp; omega
              have hgz : ¬ (Y.1.toNat : Int) ≥ (b.toNat : Int) := by omega
              have HN : Hid (Tr.fault s ((q : Int) + 1) lo hi (j + 1) = false) := by unfold Hid; rw [HNx.out, hbj]; show (false || !(Tr.above lo Y.1 && Tr.under hi Y.1)) = false; rw [hab, hun]; rfl
              have HW5 : Hid (Walks (wr.setCell ⟨g, 4, none⟩ (.bool false)) g gm P (some ⟨pb, off, none⟩) pc oa on_ oc base s { k1 with bad := Tr.fault s ((q : Int) + 1) lo hi (j + 1) }) := by rw [HN.out]; exact HWr.out.setBad A.out false
              have HK5 : Hid (Kept (· ≠ g) w3 (wr.setCell ⟨g, 4, none⟩ (.bool false))) := HKr.out.setCell (p := ⟨g, 4, none⟩) (fun h => h rfl) _
              clear HNx hbj
              go_wp2
              go_roundw
              case rel => exact ⟨j + 1, by omega, by go_num, HW5, HK5⟩
              case measure => simp [intOf]; omega
    · rw [hbj] at e4
      have HN : Hid (Tr.fault s ((q : Int) + 1) lo hi (j + 1) = true) := by unfold Hid; rw [HNx.out, hbj]; rfl
      have HW5 : Hid (Walks (wr.setCell ⟨g, 4, none⟩ (.bool true)) g gm P (some ⟨pb, off, none⟩) pc oa on_ oc base s { k1 with bad := Tr.fault s ((q : Int) + 1) lo hi (j + 1) }) := by rw [HN.out]; exact HWr.out.setBad A.out true
      have HK5 : Hid (Kept (· ≠ g) w3 (wr.setCell ⟨g, 4, none⟩ (.bool true))) := HKr.out.setCell (p := ⟨g, 4, none⟩) (fun h => h rfl) _
      clear HNx hbj
      go_wp2
      go_roundw
      case rel => exact ⟨j + 1, by omega, by go_num, HW5, HK5⟩
      case measure => simp [intOf]; omega
  · obtain rfl : il = j := by omega
    have HFa : Hid (Tr.fault s ((q : Int) + 1) lo hi il = !Tr.good s ((q : Int) + 1) lo hi) := by have h := Tr.fault_all s ((q : Int) + 1) lo hi; rw [HIl.out] at h; exact h
    rw [HFa.out] at HWr e4
    rw [HG.out] at HWr e4
    have hok := (Tr.good_ok HG.out).1
    have HIK : Hid (kl = il + 1) := by
     have h := hok.kids.resolve_left (fun h => HKn.out (by unfold Lf.isLeaf at h; exact List.isEmpty_iff.1 h))
     rw [HIl.out, HKl.out] at h
     exact h
    have hil1 : 1 ≤ il := by have h := hok.some_; rw [HIl.out] at h; exact h
    have hk0 : ((kl : Int) == 0) = false := beq_eq_false_iff_ne.2 (by have := HIK.out; omega)
    clear hok
    obtain ⟨wz, hwz⟩ : ∃ wz, wz = wr := ⟨_, rfl⟩
    subst hwz
    have HB1 : Hid ({ k1 with bad := !true } = k1) := by
     have hb := (Tr.open_iff.1 HO.out).1
     unfold Hid
     rw [HK1.out]
     show ({ met := _, out := k.out, leaf := k.leaf, bad := false } : Tr.Wk) = _
     rw [← hb]
    rw [HB1.out] at HWr
    have HEq : Hid (Tr.node s (f + 1) ((q : Int) + 1) lo hi k = Tr.kidsOf s f (Tr.nod s ((q : Int) + 1)) lo hi kl k1) := by
     unfold Hid Tr.node
     rw [if_pos HO.out, HG.out, if_pos rfl, if_neg HKn.out, HK1.out, show ((q : Int) + 1).toNat - 1 = q by omega, ← HKl.out]
     rfl
    have QZ : Hid (Quiet g gm oa on_ oc w wz) := ⟨HKr.out.os.trans Q3.out.os, HKr.out.tape.trans Q3.out.tape, HKr.out.output.trans Q3.out.output, zw1 Q3.out.size HKr.out.size, fun b hb => (HKr.out.block b hb.2.1).trans (Q3.out.block b hb)⟩
    have RZ : Hid (Row wz w2.heap.size 139 [.slice ia il ic, .slice ka kl kc]) := BOX.out HKr.out
    have IZ : Hid (rItms.rd wz (fun b => w1.heap.size ≤ b) [.slice ia il ic] (Tr.nod s ((q : Int) + 1)).1) := ITM.out HKr.out
    have KZ : Hid (rKids.rd wz (fun b => w1.heap.size ≤ b) [.slice ka kl kc] (Tr.nod s ((q : Int) + 1)).2) := Rep.kept K3.out HKr.out (fun b hb _ => by have := HZ1.out; have := HS0.out; have := A.out.gb; omega)
    have VZ : Hid _ := BND.out HKr.out
    have HWZ : Hid (w.heap.size ≤ wz.heap.size) := QZ.out.size
    have HOL : Hid (∀ r, (Value.slice oa on_ oc).ownBlock = some r → r < w.heap.size) := fun r hr => (H.out.ownLt r hr).2
    have HGM : Hid (gm < w.heap.size) := H.out.met.lt
    have HS1 : Hid (∀ b, w1.heap.size ≤ b → b < wz.heap.size → b < wz.heap.size ∧ b ≠ g ∧ b ≠ gm ∧ (Value.slice oa on_ oc).ownBlock ≠ some b) := fun b h1 h2 => by
     have e1 := HZ1.out
     have e2 := HGM.out
     exact ⟨h2, by omega, by omega, fun e => by have := HOL.out b e; omega⟩
    have HS2 : Hid (w1.heap.size ≤ w2.heap.size) := by have e1 := HZ1.out; have e2 := HZ3.out; unfold Hid; omega
    go_wp2
    clear e0 e1 e2 e3 e4 g4 n0 n1
    go_loopw [14] (fun i wr => ∃ (j : Nat) (oa' : Option Addr) (on' oc' : Nat), j ≤ kl ∧ i = .int .i64 j ∧ Hid (Walks wr g gm P (some ⟨pb, off, none⟩) pc oa' on' oc' base s (Tr.kidsOf s f (Tr.nod s ((q : Int) + 1)) lo hi j k1)) ∧ Hid (Quiet g gm oa on_ oc wz wr) ∧ Hid (∀ r, (Value.slice oa' on' oc').ownBlock = some r → (Value.slice oa on_ oc).ownBlock = some r ∨ wz.heap.size ≤ r)) (fun i _ => kl - (intOf i).toNat)
    case atStart => exact ⟨0, oa, on_, oc, Nat.zero_le _, rfl, HWr, Kept.refl _ _, fun r hr => .inl hr⟩
    case round =>
     obtain ⟨j, oa', on', oc', hj, rfl, HWj, HQj, HPj⟩ := hrel
     have BOXR : Hid (Row wr w2.heap.size 139 [.slice ia il ic, .slice ka kl kc]) := RZ.out.keep (HQj.out.block _ (HS1.out _ HS2.out RZ.out.lt))
     have IR : Hid (rItms.rd wr (fun b => w1.heap.size ≤ b) [.slice ia il ic] (Tr.nod s ((q : Int) + 1)).1) := Rep.kept IZ.out HQj.out (fun b hb hl => HS1.out b hb hl)
     have KR : Hid (rKids.rd wr (fun b => w1.heap.size ≤ b) [.slice ka kl kc] (Tr.nod s ((q : Int) + 1)).2) := Rep.kept KZ.out HQj.out (fun b hb hl => HS1.out b hb hl)
     have VR : Hid (IsBnd wr (.slice xa na ca) lo ∧ IsBnd wr (.slice xb nb cb) hi) := ⟨VZ.out.1.keep (fun r hr => HQj.out.block r ⟨VZ.out.1.lt r hr, HFr.out r (.inl hr)⟩), VZ.out.2.keep (fun r hr => HQj.out.block r ⟨VZ.out.2.lt r hr, HFr.out r (.inr hr)⟩)⟩
     obtain ⟨n0, n1⟩ := BOXR.out.two
     by_cases hltk : j < kl
     · have hjk : j < (Tr.nod s ((q : Int) + 1)).2.length := by rw [HKl.out]; exact hltk
       obtain ⟨gk, offk, rfl, -, -, hak⟩ := q2z KR.out (by omega)
       obtain ⟨ck, kd1, kd2⟩ := hak j hjk
       have HKe : Hid ((Tr.nod s ((q : Int) + 1)).2.getD j 0 = (Tr.nod s ((q : Int) + 1)).2[j]) := Tr.getD_kid hjk
       obtain ⟨kd, hkd⟩ : ∃ kd, kd = (Tr.nod s ((q : Int) + 1)).2[j] := ⟨_, rfl⟩
       rw [← hkd] at ck kd1 kd2 HKe
       have HKd : Hid (-9223372036854775808 ≤ kd ∧ kd ≤ 9223372036854775807) := ⟨kd1, kd2⟩
       have HKD : Hid (kd = (Tr.nod s ((q : Int) + 1)).2[j]) := hkd
       clear hak hkd kd1 kd2
       have hjz : (j : Int) < (kl : Int) := by omega
       obtain ⟨gi, offi, rfl, -, -, hat⟩ := q0Z IR.out (by omega)
       have hik : kl ≤ il + 1 := by have := HIK.out; omega
       by_cases hj0 : 0 < j
       · by_cases hji : j < il
         · obtain ⟨p0, -⟩ := hat (j - 1) (by rw [HIl.out]; omega)
           obtain ⟨Z, hZ⟩ : ∃ Z, Z = ((Tr.nod s ((q : Int) + 1)).1[j - 1]'(by rw [HIl.out]; omega)).1 := ⟨_, rfl⟩
           rw [← hZ] at p0
           have k1z : ((j : Int) - 1).toNat = j - 1 := by omega
           have k2z : (0 : Int) ≤ (j : Int) - 1 := by omega
           have k3z : (j : Int) - 1 < (il : Int) := by omega
           have hj0z : (j : Int) > 0 := by omega
           have hj0d : decide (0 < j) = true := decide_eq_true (by omega)
           obtain ⟨wa, hwa, Va, ba, za⟩ := q0q wr 39 [.int .u64 (Z.toNat : Int)]
           have HLOj : Hid (Tr.loOf (Tr.nod s ((q : Int) + 1)) lo j = some Z) := by unfold Hid Tr.loOf; rw [if_pos (by omega), zw3 (show j - 1 < (Tr.nod s ((q : Int) + 1)).1.length by rw [HIl.out]; omega), hZ]; rfl
           have bX : Below wr.heap.size wr wa := ba
           have RA : Hid _ := Va
           clear hZ
           obtain ⟨n2, n3⟩ := (BOXR.out.below bX).two
           obtain ⟨ga, offa, eqa, -, -, hat2⟩ := q0Z (Rep.below IR.out bX) (by omega)
           obtain ⟨rfl, rfl⟩ : gi = ga ∧ offi = offa := by simpa using eqa
           clear eqa
           obtain ⟨t0, -⟩ := hat2 j (by rw [HIl.out]; omega)
           obtain ⟨Y, hY⟩ : ∃ Y, Y = ((Tr.nod s ((q : Int) + 1)).1[j]'(by rw [HIl.out]; omega)).1 := ⟨_, rfl⟩
           rw [← hY] at t0
           have hjiz : (j : Int) < (il : Int) := by omega
           obtain ⟨wb, hwb, Vb, bb, zb⟩ := q0q wa 39 [.int .u64 (Y.toNat : Int)]
           have HHIj : Hid (Tr.hiOf (Tr.nod s ((q : Int) + 1)) hi j = some Y) := by unfold Hid Tr.hiOf; rw [if_pos (by rw [HIl.out]; omega), zw3 (show j < (Tr.nod s ((q : Int) + 1)).1.length by rw [HIl.out]; omega), hY]; rfl
           have bX2 : Below wr.heap.size wr wb := on bX bb
           have RB : Hid _ := Vb
           clear hY
           have BA : Hid (IsBnd wb (.slice (some ⟨wr.heap.size, 0, none⟩) 1 1) (Tr.loOf (Tr.nod s ((q : Int) + 1)) lo j)) := by rw [HLOj.out]; exact ⟨_, rfl, RA.out.below bb⟩
           have BB : Hid (IsBnd wb (.slice (some ⟨wa.heap.size, 0, none⟩) 1 1) (Tr.hiOf (Tr.nod s ((q : Int) + 1)) hi j)) := by rw [HHIj.out]; exact ⟨_, rfl, RB.out⟩
           have WX : Hid _ := HWj.out.below bX2
           have hgl : g < wr.heap.size := HWj.out.row.lt
           have hml : gm < wr.heap.size := HWj.out.met.lt
           have FRX : Hid (∀ r, (Value.ownBlock (.slice (some ⟨wr.heap.size, 0, none⟩) 1 1)) = some r ∨ (Value.ownBlock (.slice (some ⟨wa.heap.size, 0, none⟩) 1 1)) = some r → r ≠ g ∧ r ≠ gm ∧ (Value.slice oa' on' oc').ownBlock ≠ some r) := fun r hr => by
            have hold : r < w.heap.size → (r ≠ g ∧ r ≠ gm ∧ (Value.slice oa on_ oc).ownBlock ≠ some r) → r ≠ g ∧ r ≠ gm ∧ (Value.slice oa' on' oc').ownBlock ≠ some r := fun h1 h2 => ⟨h2.1, h2.2.1, fun e => by
             rcases HPj.out r e with h | h
             · exact h2.2.2 h
             · have := HWZ.out; omega⟩
            have hnew : wr.heap.size ≤ r → r ≠ g ∧ r ≠ gm ∧ (Value.slice oa' on' oc').ownBlock ≠ some r := fun h => ⟨by omega, by omega, fun e => by have := (HWj.out.ownLt r e).2; omega⟩
            rcases hr with hr | hr
            · simp only [Value.ownBlock, Option.some.injEq] at hr; exact hnew (by omega)
            · simp only [Value.ownBlock, Option.some.injEq] at hr; exact hnew (by have := ba.size; omega)
           have hszX : base ≤ wb.heap.size := zw1 HS0.out (zw1 HWZ.out (zw1 HQj.out.size bX2.size))
           have HSX : Hid _ := hszX
           have BX2 : Hid _ := bX2
           have hlv1 : lv + 1 = 17 - (f : Int) := by have := HLv.out; omega
           have HL1 : Hid _ := hlv1
           obtain ⟨n6, n7⟩ := (BOXR.out.below bX2).two
           obtain ⟨gz, offz, eqz, -, -, hak2⟩ := q2z (Rep.below KR.out bX2) (by omega)
           obtain ⟨rfl, rfl⟩ : gk = gz ∧ offk = offz := by simpa using eqz
           obtain ⟨ck2, -, -⟩ := hak2 j hjk
           rw [← HKD.out] at ck2
           clear eqz hak2
           clear bX bX2 hszX hlv1 hat hat2 hgl hml hik Va ba za Vb bb zb
           go_wp2_with fail
           refine (IH.out wb B g gm P (some ⟨pb, off, none⟩) pc oa' on' oc' base (Tr.kidsOf s f (Tr.nod s ((q : Int) + 1)) lo hi j k1) kd (lv + 1) _ _ _ _ HL1.out A.out WX.out BA.out BB.out FRX.out HSX.out HKd.out.1 HKd.out.2).mono ?_
           rintro e w5 hd
           obtain ⟨oa2, on2, oc2, rfl, hW5, hQ5, hP5⟩ := hd
           have HW5 : Hid (Walks w5 g gm P (some ⟨pb, off, none⟩) pc oa2 on2 oc2 base s (Tr.kidsOf s f (Tr.nod s ((q : Int) + 1)) lo hi (j + 1) k1)) := by
            unfold Hid
            rw [Tr.kidsOf_succ, HKe.out]
            exact hW5
           have HQ5 : Hid (Quiet g gm oa on_ oc wz w5) := ⟨hQ5.os.trans (BX2.out.os.trans HQj.out.os), hQ5.tape.trans (BX2.out.tape.trans HQj.out.tape), hQ5.output.trans (BX2.out.output.trans HQj.out.output), zw1 HQj.out.size (zw1 BX2.out.size hQ5.size), fun b hb => (hQ5.block b ⟨Nat.lt_of_lt_of_le hb.1 (zw1 HQj.out.size BX2.out.size), hb.2.1, hb.2.2.1, fun e => (HPj.out b e).elim hb.2.2.2 (fun h => by have := hb.1; omega)⟩).trans ((BX2.out.block b (Nat.lt_of_lt_of_le hb.1 HQj.out.size)).trans (HQj.out.block b hb))⟩
           have HP5 : Hid (∀ r, (Value.slice oa2 on2 oc2).ownBlock = some r → (Value.slice oa on_ oc).ownBlock = some r ∨ wz.heap.size ≤ r) := fun r hr => (hP5 r hr).elim (HPj.out r) (fun h => .inr (zw1 HQj.out.size (zw1 BX2.out.size h)))
           clear hW5 hQ5 hP5
           go_wp2
           go_roundw
           case rel => exact ⟨j + 1, oa2, on2, oc2, by omega, by go_num, HW5, HQ5, HP5⟩
           case measure => simp [intOf]; omega
         · obtain ⟨p0, -⟩ := hat (j - 1) (by rw [HIl.out]; omega)
           obtain ⟨Z, hZ⟩ : ∃ Z, Z = ((Tr.nod s ((q : Int) + 1)).1[j - 1]'(by rw [HIl.out]; omega)).1 := ⟨_, rfl⟩
           rw [← hZ] at p0
           have k1z : ((j : Int) - 1).toNat = j - 1 := by omega
           have k2z : (0 : Int) ≤ (j : Int) - 1 := by omega
           have k3z : (j : Int) - 1 < (il : Int) := by omega
           have hj0z : (j : Int) > 0 := by omega
           have hj0d : decide (0 < j) = true := decide_eq_true (by omega)
           obtain ⟨wa, hwa, Va, ba, za⟩ := q0q wr 39 [.int .u64 (Z.toNat : Int)]
           have HLOj : Hid (Tr.loOf (Tr.nod s ((q : Int) + 1)) lo j = some Z) := by unfold Hid Tr.loOf; rw [if_pos (by omega), zw3 (show j - 1 < (Tr.nod s ((q : Int) + 1)).1.length by rw [HIl.out]; omega), hZ]; rfl
           have bX : Below wr.heap.size wr wa := ba
           have RA : Hid _ := Va
           clear hZ
           obtain ⟨n2, n3⟩ := (BOXR.out.below bX).two
           obtain ⟨ga, offa, eqa, -, -, hat2⟩ := q0Z (Rep.below IR.out bX) (by omega)
           obtain ⟨rfl, rfl⟩ : gi = ga ∧ offi = offa := by simpa using eqa
           clear eqa
           have hjiz : ¬ (j : Int) < (il : Int) := by omega
           have HHIj : Hid (Tr.hiOf (Tr.nod s ((q : Int) + 1)) hi j = hi) := by unfold Hid Tr.hiOf; rw [if_neg (by rw [HIl.out]; omega)]
           have bX2 : Below wr.heap.size wr wa := bX
           have BA : Hid (IsBnd wa (.slice (some ⟨wr.heap.size, 0, none⟩) 1 1) (Tr.loOf (Tr.nod s ((q : Int) + 1)) lo j)) := by rw [HLOj.out]; exact ⟨_, rfl, RA.out⟩
           have BB : Hid (IsBnd wa (.slice xb nb cb) (Tr.hiOf (Tr.nod s ((q : Int) + 1)) hi j)) := by rw [HHIj.out]; exact VR.out.2.keep (fun r hr => bX2.block r (VR.out.2.lt r hr))
           have WX : Hid _ := HWj.out.below bX2
           have hgl : g < wr.heap.size := HWj.out.row.lt
           have hml : gm < wr.heap.size := HWj.out.met.lt
           have FRX : Hid (∀ r, (Value.ownBlock (.slice (some ⟨wr.heap.size, 0, none⟩) 1 1)) = some r ∨ (Value.ownBlock (.slice xb nb cb)) = some r → r ≠ g ∧ r ≠ gm ∧ (Value.slice oa' on' oc').ownBlock ≠ some r) := fun r hr => by
            have hold : r < w.heap.size → (r ≠ g ∧ r ≠ gm ∧ (Value.slice oa on_ oc).ownBlock ≠ some r) → r ≠ g ∧ r ≠ gm ∧ (Value.slice oa' on' oc').ownBlock ≠ some r := fun h1 h2 => ⟨h2.1, h2.2.1, fun e => by
             rcases HPj.out r e with h | h
             · exact h2.2.2 h
             · have := HWZ.out; omega⟩
            have hnew : wr.heap.size ≤ r → r ≠ g ∧ r ≠ gm ∧ (Value.slice oa' on' oc').ownBlock ≠ some r := fun h => ⟨by omega, by omega, fun e => by have := (HWj.out.ownLt r e).2; omega⟩
            rcases hr with hr | hr
            · simp only [Value.ownBlock, Option.some.injEq] at hr; exact hnew (by omega)
            · exact hold (HLa.out r (.inr hr)) (HFr.out r (.inr hr))
           have hszX : base ≤ wa.heap.size := zw1 HS0.out (zw1 HWZ.out (zw1 HQj.out.size bX2.size))
           have HSX : Hid _ := hszX
           have BX2 : Hid _ := bX2
           have hlv1 : lv + 1 = 17 - (f : Int) := by have := HLv.out; omega
           have HL1 : Hid _ := hlv1
           obtain ⟨n6, n7⟩ := (BOXR.out.below bX2).two
           obtain ⟨gz, offz, eqz, -, -, hak2⟩ := q2z (Rep.below KR.out bX2) (by omega)
           obtain ⟨rfl, rfl⟩ : gk = gz ∧ offk = offz := by simpa using eqz
           obtain ⟨ck2, -, -⟩ := hak2 j hjk
           rw [← HKD.out] at ck2
           clear eqz hak2
           clear bX bX2 hszX hlv1 hat hat2 hgl hml hik Va ba za
           go_wp2_with fail
           refine (IH.out wa B g gm P (some ⟨pb, off, none⟩) pc oa' on' oc' base (Tr.kidsOf s f (Tr.nod s ((q : Int) + 1)) lo hi j k1) kd (lv + 1) _ _ _ _ HL1.out A.out WX.out BA.out BB.out FRX.out HSX.out HKd.out.1 HKd.out.2).mono ?_
           rintro e w5 hd
           obtain ⟨oa2, on2, oc2, rfl, hW5, hQ5, hP5⟩ := hd
           have HW5 : Hid (Walks w5 g gm P (some ⟨pb, off, none⟩) pc oa2 on2 oc2 base s (Tr.kidsOf s f (Tr.nod s ((q : Int) + 1)) lo hi (j + 1) k1)) := by
            unfold Hid
            rw [Tr.kidsOf_succ, HKe.out]
            exact hW5
           have HQ5 : Hid (Quiet g gm oa on_ oc wz w5) := ⟨hQ5.os.trans (BX2.out.os.trans HQj.out.os), hQ5.tape.trans (BX2.out.tape.trans HQj.out.tape), hQ5.output.trans (BX2.out.output.trans HQj.out.output), zw1 HQj.out.size (zw1 BX2.out.size hQ5.size), fun b hb => (hQ5.block b ⟨Nat.lt_of_lt_of_le hb.1 (zw1 HQj.out.size BX2.out.size), hb.2.1, hb.2.2.1, fun e => (HPj.out b e).elim hb.2.2.2 (fun h => by have := hb.1; omega)⟩).trans ((BX2.out.block b (Nat.lt_of_lt_of_le hb.1 HQj.out.size)).trans (HQj.out.block b hb))⟩
           have HP5 : Hid (∀ r, (Value.slice oa2 on2 oc2).ownBlock = some r → (Value.slice oa on_ oc).ownBlock = some r ∨ wz.heap.size ≤ r) := fun r hr => (hP5 r hr).elim (HPj.out r) (fun h => .inr (zw1 HQj.out.size (zw1 BX2.out.size h)))
           clear hW5 hQ5 hP5
           go_wp2
           go_roundw
           case rel => exact ⟨j + 1, oa2, on2, oc2, by omega, by go_num, HW5, HQ5, HP5⟩
           case measure => simp [intOf]; omega
       · by_cases hji : j < il
         · have hj0z : ¬ (j : Int) > 0 := by omega
           have hj0d : decide (0 < j) = false := decide_eq_false (by omega)
           have HLOj : Hid (Tr.loOf (Tr.nod s ((q : Int) + 1)) lo j = lo) := by unfold Hid Tr.loOf; rw [if_neg (by omega)]
           have bX : Below wr.heap.size wr wr := Below.refl _ _
           have hat2 := hat
           obtain ⟨t0, -⟩ := hat2 j (by rw [HIl.out]; omega)
           obtain ⟨Y, hY⟩ : ∃ Y, Y = ((Tr.nod s ((q : Int) + 1)).1[j]'(by rw [HIl.out]; omega)).1 := ⟨_, rfl⟩
           rw [← hY] at t0
           have hjiz : (j : Int) < (il : Int) := by omega
           obtain ⟨wb, hwb, Vb, bb, zb⟩ := q0q wr 39 [.int .u64 (Y.toNat : Int)]
           have HHIj : Hid (Tr.hiOf (Tr.nod s ((q : Int) + 1)) hi j = some Y) := by unfold Hid Tr.hiOf; rw [if_pos (by rw [HIl.out]; omega), zw3 (show j < (Tr.nod s ((q : Int) + 1)).1.length by rw [HIl.out]; omega), hY]; rfl
           have bX2 : Below wr.heap.size wr wb := on bX bb
           have RB : Hid _ := Vb
           clear hY
           have BA : Hid (IsBnd wb (.slice xa na ca) (Tr.loOf (Tr.nod s ((q : Int) + 1)) lo j)) := by rw [HLOj.out]; exact VR.out.1.keep (fun r hr => bX2.block r (VR.out.1.lt r hr))
           have BB : Hid (IsBnd wb (.slice (some ⟨wr.heap.size, 0, none⟩) 1 1) (Tr.hiOf (Tr.nod s ((q : Int) + 1)) hi j)) := by rw [HHIj.out]; exact ⟨_, rfl, RB.out⟩
           have WX : Hid _ := HWj.out.below bX2
           have hgl : g < wr.heap.size := HWj.out.row.lt
           have hml : gm < wr.heap.size := HWj.out.met.lt
           have FRX : Hid (∀ r, (Value.ownBlock (.slice xa na ca)) = some r ∨ (Value.ownBlock (.slice (some ⟨wr.heap.size, 0, none⟩) 1 1)) = some r → r ≠ g ∧ r ≠ gm ∧ (Value.slice oa' on' oc').ownBlock ≠ some r) := fun r hr => by
            have hold : r < w.heap.size → (r ≠ g ∧ r ≠ gm ∧ (Value.slice oa on_ oc).ownBlock ≠ some r) → r ≠ g ∧ r ≠ gm ∧ (Value.slice oa' on' oc').ownBlock ≠ some r := fun h1 h2 => ⟨h2.1, h2.2.1, fun e => by
             rcases HPj.out r e with h | h
             · exact h2.2.2 h
             · have := HWZ.out; omega⟩
            have hnew : wr.heap.size ≤ r → r ≠ g ∧ r ≠ gm ∧ (Value.slice oa' on' oc').ownBlock ≠ some r := fun h => ⟨by omega, by omega, fun e => by have := (HWj.out.ownLt r e).2; omega⟩
            rcases hr with hr | hr
            · exact hold (HLa.out r (.inl hr)) (HFr.out r (.inl hr))
            · simp only [Value.ownBlock, Option.some.injEq] at hr; exact hnew (by omega)
           have hszX : base ≤ wb.heap.size := zw1 HS0.out (zw1 HWZ.out (zw1 HQj.out.size bX2.size))
           have HSX : Hid _ := hszX
           have BX2 : Hid _ := bX2
           have hlv1 : lv + 1 = 17 - (f : Int) := by have := HLv.out; omega
           have HL1 : Hid _ := hlv1
           obtain ⟨n6, n7⟩ := (BOXR.out.below bX2).two
           obtain ⟨gz, offz, eqz, -, -, hak2⟩ := q2z (Rep.below KR.out bX2) (by omega)
           obtain ⟨rfl, rfl⟩ : gk = gz ∧ offk = offz := by simpa using eqz
           obtain ⟨ck2, -, -⟩ := hak2 j hjk
           rw [← HKD.out] at ck2
           clear eqz hak2
           clear bX bX2 hszX hlv1 hat hat2 hgl hml hik Vb bb zb
           go_wp2_with fail
           refine (IH.out wb B g gm P (some ⟨pb, off, none⟩) pc oa' on' oc' base (Tr.kidsOf s f (Tr.nod s ((q : Int) + 1)) lo hi j k1) kd (lv + 1) _ _ _ _ HL1.out A.out WX.out BA.out BB.out FRX.out HSX.out HKd.out.1 HKd.out.2).mono ?_
           rintro e w5 hd
           obtain ⟨oa2, on2, oc2, rfl, hW5, hQ5, hP5⟩ := hd
           have HW5 : Hid (Walks w5 g gm P (some ⟨pb, off, none⟩) pc oa2 on2 oc2 base s (Tr.kidsOf s f (Tr.nod s ((q : Int) + 1)) lo hi (j + 1) k1)) := by
            unfold Hid
            rw [Tr.kidsOf_succ, HKe.out]
            exact hW5
           have HQ5 : Hid (Quiet g gm oa on_ oc wz w5) := ⟨hQ5.os.trans (BX2.out.os.trans HQj.out.os), hQ5.tape.trans (BX2.out.tape.trans HQj.out.tape), hQ5.output.trans (BX2.out.output.trans HQj.out.output), zw1 HQj.out.size (zw1 BX2.out.size hQ5.size), fun b hb => (hQ5.block b ⟨Nat.lt_of_lt_of_le hb.1 (zw1 HQj.out.size BX2.out.size), hb.2.1, hb.2.2.1, fun e => (HPj.out b e).elim hb.2.2.2 (fun h => by have := hb.1; omega)⟩).trans ((BX2.out.block b (Nat.lt_of_lt_of_le hb.1 HQj.out.size)).trans (HQj.out.block b hb))⟩
           have HP5 : Hid (∀ r, (Value.slice oa2 on2 oc2).ownBlock = some r → (Value.slice oa on_ oc).ownBlock = some r ∨ wz.heap.size ≤ r) := fun r hr => (hP5 r hr).elim (HPj.out r) (fun h => .inr (zw1 HQj.out.size (zw1 BX2.out.size h)))
           clear hW5 hQ5 hP5
           go_wp2
           go_roundw
           case rel => exact ⟨j + 1, oa2, on2, oc2, by omega, by go_num, HW5, HQ5, HP5⟩
           case measure => simp [intOf]; omega
         · exfalso; omega
     · obtain rfl : kl = j := by omega
       go_wp2
       go_end0
       exact NodeDone.of ⟨oa', on', oc', rfl, by rw [HEq.out]; exact HWj.out, ⟨HQj.out.os.trans QZ.out.os, HQj.out.tape.trans QZ.out.tape, HQj.out.output.trans QZ.out.output, zw1 QZ.out.size HQj.out.size, fun b hb => (HQj.out.block b ⟨Nat.lt_of_lt_of_le hb.1 QZ.out.size, hb.2⟩).trans (QZ.out.block b hb)⟩, fun r hr => (HPj.out r hr).imp id (fun h => zw1 HWZ.out h)⟩
theorem node_u (s : Pgs) (hs : s.length ≤ 2048) : ∀ f, f ≤ 16 → NodeSaid s f
 | 0, _ => node_zero s hs
 | f + 1, hf => by
   intro w B g gm P pa pc oa on_ oc base k p lv lo hi va vb hlv hA hW hVa hVb hFr hbs hp0 hp1
   cases ho : Tr.open_ s p k
   · exact node_shut s hs f (by omega) w B g gm P pa pc oa on_ oc base k p lv lo hi va vb hlv hA hW hp0 hp1 ho
   · cases hg : Tr.good s p lo hi
     · exact node_faulty s hs f (by omega) w B g gm P pa pc oa on_ oc base k p lv lo hi va vb hlv hA hW hVa hVb hFr hbs hp0 hp1 ho hg
     · by_cases hk : (Tr.nod s p).2 = []
       · exact node_leaf s hs f (by omega) w B g gm P pa pc oa on_ oc base k p lv lo hi va vb hlv hA hW hVa hVb hFr hbs hp0 hp1 ho hg hk
       · exact node_kids s hs f (by omega) (node_u s hs f (by omega)) w B g gm P pa pc oa on_ oc base k p lv lo hi va vb hlv hA hW hVa hVb hFr hbs hp0 hp1 ho hg hk
attribute [local go_sem] Oper.semAt_some
namespace Tr
def numTo (m : List Bool) (j : Nat) : List Int := ((List.range j).filter fun i => m.getD i false).map fun (i : Nat) => (i : Int) + 1
theorem numTo_all (m : List Bool) : numTo m m.length = numbers m := rfl
theorem numTo_succ (m : List Bool) (j : Nat) : numTo m (j + 1) = if m.getD j false = true then numTo m j ++ [(j : Int) + 1] else numTo m j := by
 unfold numTo
 rw [List.range_succ, List.filter_append]
 by_cases h : m.getD j false = true
 · rw [if_pos h, List.filter_cons_of_pos (by simpa using h), List.filter_nil, List.map_append]; rfl
 · rw [if_neg h, List.filter_cons_of_neg (by simpa using h), List.filter_nil, List.append_nil]
end Tr
theorem qVz (w : World) : IsBnd w (.slice none 0 0) none := by first | exact rfl | exact ⟨rfl, rfl⟩ | (unfold IsBnd; simp)
theorem info_bool : (Tryz.prog.info? 4).map (fun i => (i.zero, i.size, i.bytes)) = some (some (.bool false), 1, 1) := by kernel_rfl
theorem rread_u (w : World) (P : Nat → Prop) (s : Pgs) (root : Int) (pa : Option Addr) (pc : Nat) (hR : rSectors.rd w P [.slice pa s.length pc] s) (h0 : -9223372036854775808 ≤ root) (h1 : root ≤ 9223372036854775807) :
 Calls Tryz.prog 41 #[.agg #[.slice pa s.length pc], .int .i64 root] w fun e w' => ∃ a n c a' n' c', e = .returned (.tuple #[.slice a n c, .slice a' n' c', .int .i64 (Tr.readE s root)]) ∧ OwnI 45 w' w.heap.size (.slice a n c) (Tr.readI s root) ∧ OwnK 3 w' w.heap.size (.slice a' n' c') (Tr.readP s root) ∧ Below w.heap.size w w' := by
 obtain ⟨w1, hw1, V1, b1, z1⟩ := q0q w 24 [.slice pa s.length pc]
 have a0 := V1.cell (j := 0) rfl
 have B1 : Hid _ := b1
 have HR1 : Hid (rSectors.rd w1 (fun b => b < w.heap.size) [.slice pa s.length pc] s) := Rep.below (rSectors.weaken hR (fun b _ hl => hl)) b1
 have hsl : s.length ≤ 5864062014634 := (q4q hR).2
 have HZ1 : Hid (w1.heap.size = w.heap.size + 1) := z1
 have HV1 : Hid _ := V1
 by_cases hl : 2048 < s.length
 · have hlz : (s.length : Int) > 2048 := by omega
   have HE : Hid (Tr.readE s root = 3) := by unfold Hid Tr.readE; rw [if_pos hl]
   have HI : Hid (Tr.readI s root = []) := by unfold Hid Tr.readI; rw [if_neg (fun k => by rw [HE.out] at k; exact absurd k.1 (by decide))]
   have HP : Hid (Tr.readP s root = []) := by unfold Hid Tr.readP; rw [if_neg (fun k => by rw [HE.out] at k; exact absurd k.1 (by decide))]
   clear hl hR V1 b1 z1
   go_enter Tryz.func41, Tryz.ntmps41
   go_wp2
   go_ret3
   exact ⟨_, _, _, _, _, _, by rw [HE.out]; rfl, by rw [HI.out]; exact OwnI.nil _ _ _, by rw [HP.out]; exact OwnK.nil _ _ _, B1.out⟩
 · have hlz : ¬ (s.length : Int) > 2048 := by omega
   by_cases hr : root = 0
   · subst hr
     have HE : Hid (Tr.readE s 0 = 0) := by unfold Hid Tr.readE; rw [if_neg hl, if_pos rfl]
     have HI : Hid (Tr.readI s 0 = []) := by unfold Hid Tr.readI; rw [if_neg (fun k => k.2 rfl)]
     have HP : Hid (Tr.readP s 0 = []) := by unfold Hid Tr.readP; rw [if_neg (fun k => k.2 rfl)]
     clear hl hR V1 b1 z1
     go_enter Tryz.func41, Tryz.ntmps41
     go_wp2
     go_ret3
     exact ⟨_, _, _, _, _, _, by rw [HE.out]; rfl, by rw [HI.out]; exact OwnI.nil _ _ _, by rw [HP.out]; exact OwnK.nil _ _ _, B1.out⟩
   · have hrz : (root == 0) = false := beq_eq_false_iff_ne.2 hr
     have HL : Hid (s.length ≤ 2048) := by unfold Hid; omega
     have HRt : Hid (root ≠ 0) := hr
     have HE : Hid (Tr.readE s root = if (Tr.walk s root).bad = true then 9 else 0) := by unfold Hid Tr.readE; rw [if_neg hl, if_neg hr]
     obtain ⟨i, hi, hz0, hz1', hz2⟩ := info_parts info_bool
     have hmk := run_makeSlice (P := Tryz.prog) (w := w1.drew) 43 4 i (.bool false) Tryz.underlying43 hi hz0 .i64 .i64 (s.length : Int) (s.length : Int) (by omega) (by omega) (by rw [hz1']; omega) (by rw [hz2]; omega) (by omega)
     rw [hz1', show ((s.length : Int)).toNat = s.length from rfl, Nat.mul_one] at hmk
     obtain ⟨w2, hw2⟩ : ∃ w2, w1.drew.alloc (.cells (madeCells (Value.bool false).cells s.length) 4) = w2 := ⟨_, rfl⟩
     rw [hw2] at hmk
     have V2 : Row w2 w1.heap.size 4 (List.replicate s.length (.bool false)) := by
      rw [← hw2]
      have := q1Z w1.drew 4 (List.replicate s.length (.bool false))
      rw [← toList_madeCells_one, Array.toArray_toList] at this
      rw [← toList_madeCells_one]
      exact this
     have b2 : Below w1.heap.size w1 w2 := by rw [← hw2]; exact ((Below.refl _ w1).drew).alloc (zw0 _) _
     have z2 : w2.heap.size = w1.heap.size + 1 := by rw [← hw2]; simp
     obtain ⟨w3, hw3, V3, b3, z3⟩ := q0q w2 121 [.slice pa s.length pc, .slice (some ⟨w1.heap.size, 0, none⟩) s.length s.length, .slice none 0 0, .int .i64 0, .bool false]
     have B3 : Hid (Below w.heap.size w w3) := on (on B1.out b2) b3
     have HZ3 : Hid (w2.heap.size = w1.heap.size + 1 ∧ w3.heap.size = w1.heap.size + 2) := ⟨z2, by omega⟩
     have HWk : Hid (Walks w3 w2.heap.size w1.heap.size (fun b => b < w.heap.size) pa pc none 0 0 w3.heap.size s (Tr.none_ s)) :=
      ⟨V3, Rep.below HR1.out (on b2 b3), by have h := V2.below b3; unfold Tr.none_ q5x; rw [List.map_replicate]; exact h, by simp [Tr.none_], OwnI.nil _ _ _, by simp [Tr.none_]⟩
     have HA : Hid (qTj (fun b => b < w.heap.size) w.heap.size w2.heap.size w1.heap.size w3.heap.size) := by
      have := HZ1.out
      exact ⟨fun b hb => hb, by omega, by omega, by omega, by omega, by omega, by omega⟩
     have HN : Hid _ := node_u s HL.out 16 (zw0 _) w3 w.heap.size w2.heap.size w1.heap.size (fun b => b < w.heap.size) pa pc none 0 0 w3.heap.size (Tr.none_ s) root 1 none none (.slice none 0 0) (.slice none 0 0) (by decide) HA.out HWk.out (qVz _) (qVz _) (fun q h => by rcases h with h | h <;> cases h) (zw0 _) h0 h1
     have a2 := (HV1.out.below b2).cell (j := 0) rfl
     have a3 := ((HV1.out.below b2).below b3).cell (j := 0) rfl
     clear hl hR V1 b1 z1 hr hi hz0 hz1' hz2 V2 b2 z2 V3 b3 z3
     go_enter Tryz.func41, Tryz.ntmps41
     go_wp2_with fail
     refine wp_region_held_drew (S := (fun w' : World => w'.cell? ⟨w.heap.size, 0, none⟩ = some (.slice pa s.length pc))) (by kernel_rfl) ((HV1.out.below (Below.refl _ _).drew).cell (j := 0) rfl) (fun hH => ?_)
     refine tkM 0 _ rfl rfl ?_; simp only [sz, ss]
     refine tkM 1 _ rfl rfl ?_; simp only [sz, ss]
     refine tkM 2 _ rfl rfl ?_; simp only [sz, ss]
     refine tkM 3 _ rfl rfl ?_; simp only [sz, ss]
     refine r1L 4 rfl fun K hK => ?_
     · go_simp
       refine hK.out _ _ (by exact a2) fun hH => ?_; clear hK K
       refine tkM 5 _ rfl rfl ?_; simp only [sz, ss]
       refine r1L 6 rfl fun K hK => ?_
       · go_simp
         refine hK.out _ _ (by exact a3) fun hH => ?_; clear hK K
         refine tkM 7 _ rfl rfl ?_; simp only [sz, ss]
         refine wpAnyH_done (by kernel_rfl) ?_ _
         clear hH
         go_wp2_with fail
         go_at_call 61
         refine Calls.mono HN.out ?_
         rintro e w4 ⟨oa, om, oc, rfl, hW4, hQ, hpl⟩
         have hw4 : Tr.node s 16 root none none (Tr.none_ s) = Tr.walk s root := rfl
         rw [hw4] at hW4
         have B4 : Hid (Below w.heap.size w w4) := by
          have h3 := B3.out
          have hz := HZ3.out
          have hz1 := HZ1.out
          refine ⟨hQ.os.trans h3.os, hQ.tape.trans h3.tape, hQ.output.trans h3.output, zw1 h3.size hQ.size, fun b hb => (hQ.block b ⟨by have := h3.size; omega, by omega, by omega, fun e => by cases e⟩).trans (h3.block b hb)⟩
         have HW4 : Hid _ := hW4
         obtain ⟨r0, r1, r2, r3, r4⟩ := hW4.five
         clear hQ hpl hw4 hW4 HN HWk HA a2 a3 hmk
         cases hb : (Tr.walk s root).bad with
         | true =>
           rw [hb] at r4
           have HE9 : Hid (Tr.readE s root = 9) := by rw [HE.out, hb]; rfl
           have HI : Hid (Tr.readI s root = []) := by unfold Hid Tr.readI; rw [if_neg (fun k => by rw [HE9.out] at k; exact absurd k.1 (by decide))]
           have HP : Hid (Tr.readP s root = []) := by unfold Hid Tr.readP; rw [if_neg (fun k => by rw [HE9.out] at k; exact absurd k.1 (by decide))]
           clear hb
           go_wp2
           go_ret3
           exact ⟨_, _, _, _, _, _, by rw [HE9.out]; rfl, by rw [HI.out]; exact OwnI.nil _ _ _, by rw [HP.out]; exact OwnK.nil _ _ _, B4.out⟩
         | false =>
           rw [hb] at r4
           have HE0 : Hid (Tr.readE s root = 0) := by rw [HE.out, hb]; rfl
           have HI : Hid (Tr.readI s root = (Tr.walk s root).out) := by unfold Hid Tr.readI; rw [if_pos ⟨HE0.out, HRt.out⟩]
           have HP : Hid (Tr.readP s root = Tr.numbers (Tr.walk s root).met) := by unfold Hid Tr.readP; rw [if_pos ⟨HE0.out, HRt.out⟩]
           clear hb r0 r1 r2 r3
           go_wp2
           clear r4
           have hsl2 : s.length ≤ 2048 := HL.out
           go_loopw [8, 9] (fun v i wr => ∃ k : Nat, k ≤ s.length ∧ i = .int .i64 k ∧ Hid (OwnK 3 wr w4.heap.size v (Tr.numTo (Tr.walk s root).met k)) ∧ Hid (Below w4.heap.size w4 wr)) (fun _ i _ => s.length - (intOf i).toNat)
           case atStart => exact ⟨0, Nat.zero_le _, rfl, OwnK.nil _ _ _, Below.refl _ _⟩
           case round =>
            obtain ⟨k, hk, rfl, HO, B⟩ := hrel
            have q1 := (HW4.out.row.below B.out).cell (j := 1) rfl
            obtain ⟨va, vc, rfl, -⟩ := HO.out.slice
            by_cases hlt : k < s.length
            · have hkm : k < (Tr.walk s root).met.length := by rw [HW4.out.len]; exact hlt
              have q2 : wr.cell? ⟨w1.heap.size, k, none⟩ = some (.bool (Tr.walk s root).met[k]) := (HW4.out.met.below B.out).cell (by unfold q5x; simp [hkm])
              have hkz : (k : Int) < (s.length : Int) := by omega
              have hk0 : (0 : Int) ≤ (k : Int) := Int.natCast_nonneg _
              have HSt : Hid _ := Tr.numTo_succ (Tr.walk s root).met k
              have hgd : (Tr.walk s root).met.getD k false = (Tr.walk s root).met[k] := by rw [List.getD_eq_getElem?_getD, zw3 hkm]; rfl
              rw [hgd] at HSt
              have HLn : Hid ((Tr.numTo (Tr.walk s root).met k).length ≤ k) := by unfold Hid Tr.numTo; rw [List.length_map]; exact zw1 (List.length_filter_le _ _) (by simp)
              clear hgd
              cases hm : (Tr.walk s root).met[k] with
              | true =>
                rw [hm] at q2 HSt
                have HS2 : Hid (Tr.numTo (Tr.walk s root).met (k + 1) = Tr.numTo (Tr.walk s root).met k ++ [(k : Int) + 1]) := by rw [HSt.out]; rfl
                obtain ⟨v7, w7, hr7, ho7, g7⟩ := q2J HO.out ((k : Int) + 1) (by omega) (by have := HLn.out; omega) B.out.size 25
                have hwk : IntKind.i64.wrap ((k : Int) + 1) = (k : Int) + 1 := by rw [IntKind.wrap_i64]; omega
                have HRun : Hid _ := hr7
                have HO7 : Hid (OwnK 3 w7 w4.heap.size v7 (Tr.numTo (Tr.walk s root).met (k + 1))) := by rw [HS2.out]; exact ho7
                have HB7 : Hid (Below w4.heap.size w4 w7) := by
                 have hA : Below w4.heap.size w4 (wr.alloc (.cells #[.int .i64 ((k : Int) + 1)] 3)) := B.out.alloc B.out.size _
                 exact hA.trans ((HO.out.below ((Below.refl _ wr).alloc (zw0 _) _)).base_below (by simp; have := B.out.size; omega) g7)
                clear hm HSt HS2 hr7 ho7 g7
                go_wp2_with (at_builtin; refine Lib.wpList_append_run _ rfl _ _ _ _ rfl _ _ rfl rfl _ _ HRun.out ?_)
                go_roundw
                case rel => exact ⟨k + 1, by omega, by go_num, HO7, HB7⟩
                case measure => simp [intOf]; omega
              | false =>
                rw [hm] at q2 HSt
                have HS2 : Hid (OwnK 3 wr w4.heap.size (.slice va (Tr.numTo (Tr.walk s root).met k).length vc) (Tr.numTo (Tr.walk s root).met (k + 1))) := by rw [HSt.out]; exact HO.out
                clear hm HSt
                go_wp2
                go_roundw
                case rel => exact ⟨k + 1, by omega, by go_num, HS2, B⟩
                case measure => simp [intOf]; omega
            · obtain rfl : k = s.length := by omega
              have r2 := (HW4.out.row.below B.out).cell (j := 2) rfl
              have HO2 : Hid (OwnK 3 wr w.heap.size (.slice va (Tr.numTo (Tr.walk s root).met s.length).length vc) (Tr.readP s root)) := by
               have h := HO.out.mono B4.out.size
               have e : Tr.numTo (Tr.walk s root).met s.length = Tr.readP s root := by rw [HP.out, ← Tr.numTo_all, HW4.out.len]
               rw [e] at h ⊢
               exact h
              obtain ⟨n9, hn9⟩ : ∃ n9, (Tr.numTo (Tr.walk s root).met s.length).length = n9 := ⟨_, rfl⟩
              rw [hn9] at HO2 ⊢
              have HI2 : Hid (OwnI 45 wr w.heap.size (.slice oa om oc) (Tr.readI s root)) := by
               rw [HI.out]
               exact (HW4.out.out.below B.out).mono (by have := HZ3.out; have := HZ1.out; omega)
              clear hn9 HO
              go_wp2
              go_ret3
              exact ⟨oa, om, oc, va, n9, vc, by rw [HE0.out]; rfl, HI2.out, HO2.out, on B4.out B.out⟩
namespace Tr
theorem flat_few {s : Pgs} {d : Nat} : ∀ {ks : List Int}, (∀ k ∈ ks, (its s d k).length ≤ 3 * (pgs s d k).length) → (ks.flatMap (its s d)).length ≤ 3 * (ks.flatMap (pgs s d)).length
 | [], _ => by simp
 | k :: ks, h => by
   have h1 := h k (by simp)
   have h2 := flat_few (ks := ks) (fun y hy => h y (by simp [hy]))
   rw [List.flatMap_cons, List.flatMap_cons, zw2, zw2]
   omega
theorem its_few {s : Pgs} : ∀ {d : Nat} {lo hi : Bnd} {p : Int}, Fit s d lo hi p → (its s d p).length ≤ 3 * (pgs s d p).length
 | d + 1, lo, hi, p, h => by
   obtain ⟨h1, h2, h3⟩ := h
   have hok := (good_ok h2).1
   unfold its pgs
   by_cases hk : (nod s p).2 = []
   · rw [if_pos hk, List.length_cons]
     have := hok.few
     omega
   · rw [if_neg hk, List.length_cons]
     have hd : d ≠ 0 := fun e => by rw [if_pos e] at h3; exact hk h3
     rw [if_neg hd] at h3
     have := flat_few (s := s) (d := d) (ks := (nod s p).2) (fun k hk' => by
      obtain ⟨i, hi', rfl⟩ := List.getElem_of_mem hk'
      exact its_few (h3.2 i hi'))
     omega
theorem readI_few (s : Pgs) (root : Int) : (readI s root).length ≤ 6144 := by
 by_cases h : readE s root = 0
 · obtain ⟨hl, hr⟩ := qPz h
   rcases hr with ⟨e, -⟩ | ⟨d, -, hF, hI, hn⟩
   · rw [e]; simp
   · rw [← hI]
     have h1 := its_few hF
     have h2 := qIj s.length _ hn (q2Q hF)
     omega
 · rw [readI_bad h]; simp
end Tr
theorem qMz (w : World) (P : Nat → Prop) (s : Pgs) (root : Int) (pa : Option Addr) (pc : Nat) (hR : rSectors.rd w P [.slice pa s.length pc] s) (h0 : -9223372036854775808 ≤ root) (h1 : root ≤ 9223372036854775807) : Calls Tryz.prog 18 #[.agg #[.slice pa s.length pc], .int .i64 root] w fun e w' => ∃ a n c, e = .returned (.tuple #[.slice a n c, .int .i64 (Tr.readE s root)]) ∧ OwnI 45 w' w.heap.size (.slice a n c) (Tr.readI s root) ∧ Below w.heap.size w w' := by
 obtain ⟨w1, hw1, V1, b1, z1⟩ := q0q w 24 [.slice pa s.length pc]
 have a0 := V1.cell (j := 0) rfl
 have B1 : Hid _ := b1
 have HC : Hid _ := rread_u w1 P s root pa pc (Rep.below hR b1) h0 h1
 clear V1 b1 z1 hR
 go_enter Tryz.func18, Tryz.ntmps18
 go_wp2_with fail
 go_at_call 41
 refine Calls.mono HC.out ?_
 rintro e w2 ⟨a, n, c, a', n', c', rfl, hI, hK, b2⟩
 have HI : Hid (OwnI 45 w2 w.heap.size (.slice a n c) (Tr.readI s root)) := hI.mono B1.out.size
 have HB : Hid _ := on B1.out b2
 clear hI hK b2
 go_wp2
 go_ret2
 exact ⟨_, _, _, rfl, HI.out, HB.out⟩
namespace Tr
def rangeE (s : Pgs) (root : Int) (n : Int) : Int := if readE s root = 0 then (if n < 0 then 4 else 0) else readE s root
def rangeL (s : Pgs) (root : Int) (key : UInt64) (n : Int) : List Itm := if readE s root = 0 ∧ 0 ≤ n then rangeOf (readI s root) key n.toNat else []
end Tr
theorem trange_u (w : World) (P : Nat → Prop) (s : Pgs) (root : Int) (key : UInt64) (m : Int) (pa : Option Addr) (pc : Nat) (hR : rSectors.rd w P [.slice pa s.length pc] s) (h0 : -9223372036854775808 ≤ root) (h1 : root ≤ 9223372036854775807) (hm0 : -9223372036854775808 ≤ m) (hm1 : m ≤ 9223372036854775807) :
 Calls Tryz.prog 12 #[.agg #[.slice pa s.length pc], .int .i64 root, .int .u64 (key.toNat : Int), .int .i64 m] w fun e w' => ∃ a n c, e = .returned (.tuple #[.slice a n c, .int .i64 (Tr.rangeE s root m)]) ∧ OwnI 45 w' w.heap.size (.slice a n c) (Tr.rangeL s root key m) ∧ Below w.heap.size w w' := by
 obtain ⟨wa, hwa, Va, ba, za⟩ := q0q w 26 [.slice pa s.length pc]
 have a0 := Va.cell (j := 0) rfl
 have BA : Hid _ := ba
 have HC : Hid _ := qLX wa P s root pa pc (Rep.below hR ba) h0 h1
 have HFew : Hid _ := Tr.readI_few s root
 clear Va ba za hR
 go_enter Tryz.func12, Tryz.ntmps12
 go_wp2_with fail
 go_at_call 22
 refine Calls.mono HC.out ?_
 rintro e w2 ⟨b2, hno, hyes⟩
 have B2 : Hid _ := on BA.out b2
 by_cases hE : Tr.readE s root = 0
 · obtain ⟨g, gm, base, k, es, rfl, hW, hA, hb, hg, hgm, hk⟩ := hyes hE
   by_cases hm : m < 0
   · have HE : Hid (Tr.rangeE s root m = 4) := by unfold Hid Tr.rangeE; rw [if_pos hE, if_pos hm]
     have HL : Hid (Tr.rangeL s root key m = []) := by unfold Hid Tr.rangeL; rw [if_neg (fun k => by omega)]
     clear hno hyes b2 hE hW hA hb hg hgm hk
     go_wp2
     go_ret2
     exact ⟨_, _, _, by rw [HE.out]; rfl, by rw [HL.out]; exact OwnI.nil _ _ _, B2.out⟩
   · have HE : Hid (Tr.rangeE s root m = 0) := by unfold Hid Tr.rangeE; rw [if_pos hE, if_neg hm]
     obtain ⟨mm, hmm⟩ : ∃ mm : Nat, m = (mm : Int) := ⟨m.toNat, by omega⟩
     subst hmm
     have HL : Hid (Tr.rangeL s root key mm = Tr.rangeOf (Tr.readI s root) key mm) := by unfold Hid Tr.rangeL; rw [if_pos ⟨hE, by omega⟩]; rfl
     have HSn : Hid (Seen w2 g gm s (Tr.lmet s root)) := by have h := hW.seen; rw [hk] at h; exact h
     obtain ⟨d, o1, o2, o3⟩ := Tr.start hE
     have HF : Hid _ := from_u w2 g gm s (Tr.lmet s root) HSn.out root d o1 ⟨h0, h1⟩ (by omega) (by rw [o2]; have := HFew.out; omega) key mm (by omega)
     simp only [o2] at HF
     have hmI : ¬ ((mm : Int) < 0) := hm
     clear hno hyes b2 hE hW hA hb hg hgm hk o1 o2 o3 hm
     go_wp2_with fail
     go_at_call 28
     refine Calls.mono HF.out ?_
     rintro e w3 ⟨a, n, c, rfl, hO, b3⟩
     go_wp2
     go_ret2
     exact ⟨a, n, c, by rw [HE.out]; rfl, by rw [HL.out]; exact hO.mono B2.out.size, on B2.out b3⟩
 · obtain ⟨q, rfl⟩ := hno hE
   have hEz : (Tr.readE s root == 0) = false := beq_eq_false_iff_ne.2 hE
   have HE : Hid (Tr.rangeE s root m = Tr.readE s root) := by unfold Hid Tr.rangeE; rw [if_neg hE]
   have HL : Hid (Tr.rangeL s root key m = []) := by unfold Hid Tr.rangeL; rw [if_neg (fun k => hE k.1)]
   clear hno hyes b2 hE
   go_wp2
   go_ret2
   exact ⟨_, _, _, by rw [HE.out]; rfl, by rw [HL.out]; exact OwnI.nil _ _ _, B2.out⟩
namespace Tr
open Lf
def cnt (k : UInt64) (l : List Itm) : Nat := (l.filter fun y => decide (y.1.toNat < k.toNat)).length
def has (k : UInt64) (l : List Itm) : Bool := l.any fun y => decide (y.1 = k)
def putT (x : Itm) (l : List Itm) : List Itm := (l.filter fun y => decide (y.1.toNat < x.1.toNat)) ++ [x] ++ l.filter fun y => decide (x.1.toNat < y.1.toNat)
theorem cut_lt {k : UInt64} : ∀ {l : List Itm}, Up l → l.take (cnt k l) = (l.filter fun y => decide (y.1.toNat < k.toNat)) ∧ l.drop (cnt k l) = l.filter fun y => decide (k.toNat ≤ y.1.toNat)
 | [], _ => by simp [cnt]
 | x :: l, h => by
   obtain ⟨h1, h2⟩ := List.pairwise_cons.1 h
   obtain ⟨e1, e2⟩ := cut_lt (k := k) h2
   unfold cnt at *
   by_cases hx : x.1.toNat < k.toNat
   · rw [List.filter_cons_of_pos (by simpa using hx), List.length_cons, List.take_succ_cons, List.drop_succ_cons, e1, e2, List.filter_cons_of_neg (by simp; omega)]
     exact ⟨rfl, rfl⟩
   · have hn : (l.filter fun y => decide (y.1.toNat < k.toNat)) = [] := by
      rw [List.filter_eq_nil_iff]
      intro y hy
      have := h1 y hy
      simp; omega
     have ha : (l.filter fun y => decide (k.toNat ≤ y.1.toNat)) = l := by
      rw [List.filter_eq_self]
      intro y hy
      have := h1 y hy
      simp; omega
     rw [List.filter_cons_of_neg (by simpa using hx), hn, List.filter_cons_of_pos (by simp; omega), ha]
     exact ⟨rfl, rfl⟩
theorem cnt_le (k : UInt64) (l : List Itm) : cnt k l ≤ l.length := List.length_filter_le _ _
theorem cnt_of {k : UInt64} {l : List Itm} (h : Up l) {i : Nat} (hi : i ≤ l.length) (h1 : ∀ j (hj : j < l.length), j < i → l[j].1.toNat < k.toNat) (h2 : ∀ j (hj : j < l.length), i ≤ j → k.toNat ≤ l[j].1.toNat) : cnt k l = i := by
 obtain ⟨e1, e2⟩ := cut_lt (k := k) h
 have hle := cnt_le k l
 rcases Nat.lt_trichotomy (cnt k l) i with q | q | q
 · exfalso
   have hlt : cnt k l < l.length := by omega
   have h3 := h1 _ hlt q
   have h4 : l[cnt k l] ∈ l.drop (cnt k l) := by
    rw [List.drop_eq_getElem_cons hlt]; exact List.mem_cons_self
   rw [e2] at h4
   have := (List.mem_filter.1 h4).2
   simp only [decide_eq_true_eq] at this
   omega
 · exact q
 · exfalso
   have hlt : i < l.length := by omega
   have h3 := h2 i hlt (zw0 _)
   have h4 : l[i] ∈ l.take (cnt k l) := by
    rw [List.mem_take_iff_getElem]
    exact ⟨i, by omega, rfl⟩
   rw [e1] at h4
   have := (List.mem_filter.1 h4).2
   simp only [decide_eq_true_eq] at this
   omega
theorem has_iff {k : UInt64} {l : List Itm} (h : Up l) : has k l = true ↔ ∃ hj : cnt k l < l.length, l[cnt k l].1 = k := by
 obtain ⟨e1, e2⟩ := cut_lt (k := k) h
 unfold has
 rw [List.any_eq_true]
 constructor
 · rintro ⟨y, hy, he⟩
   simp only [decide_eq_true_eq] at he
   have hd : y ∈ l.drop (cnt k l) := by rw [e2]; exact List.mem_filter.2 ⟨hy, by simp [he]⟩
   have hlt : cnt k l < l.length := by
    rcases Nat.lt_or_ge (cnt k l) l.length with q | q
    · exact q
    · rw [List.drop_of_length_le q] at hd; cases hd
   refine ⟨hlt, ?_⟩
   rw [List.drop_eq_getElem_cons hlt] at hd e2
   have hge : k.toNat ≤ (l[cnt k l]).1.toNat := by
    have : l[cnt k l] ∈ l.filter fun y => decide (k.toNat ≤ y.1.toNat) := by rw [← e2]; exact List.mem_cons_self
    simpa using (List.mem_filter.1 this).2
   rcases List.mem_cons.1 hd with q | q
   · rw [← q]; exact he
   · have hp : Up (l.drop (cnt k l)) := List.Pairwise.sublist (List.drop_sublist _ _) h
     rw [List.drop_eq_getElem_cons hlt] at hp
     have := (List.pairwise_cons.1 hp).1 y q
     rw [he] at this
     omega
 · rintro ⟨hj, e⟩
   exact ⟨_, List.getElem_mem hj, by simp [e]⟩
theorem putT_new {x : Itm} {l : List Itm} (h : Up l) (hn : has x.1 l = false) : l.take (cnt x.1 l) ++ [x] ++ l.drop (cnt x.1 l) = putT x l := by
 obtain ⟨e1, e2⟩ := cut_lt (k := x.1) h
 unfold putT
 rw [e1, e2]
 congr 1
 refine List.filter_congr fun y hy => ?_
 have : y.1 ≠ x.1 := fun e => by
  have : has x.1 l = true := by unfold has; rw [List.any_eq_true]; exact ⟨y, hy, by simp [e]⟩
  rw [hn] at this; cases this
 have : y.1.toNat ≠ x.1.toNat := fun e => this (UInt64.toNat_inj.1 e)
 simp only [decide_eq_decide]
 omega
theorem putT_old {x : Itm} {l : List Itm} (h : Up l) (hn : has x.1 l = true) : l.set (cnt x.1 l) x = putT x l := by
 obtain ⟨hj, e⟩ := (has_iff h).1 hn
 obtain ⟨e1, e2⟩ := cut_lt (k := x.1) h
 have hs : l.set (cnt x.1 l) x = l.take (cnt x.1 l) ++ [x] ++ l.drop (cnt x.1 l + 1) := by
  rw [List.set_eq_take_append_cons_drop, if_pos hj, List.append_assoc]; rfl
 rw [hs, e1]
 unfold putT
 congr 1
 rw [List.drop_eq_getElem_cons hj] at e2
 have hp : Up (l.drop (cnt x.1 l)) := List.Pairwise.sublist (List.drop_sublist _ _) h
 rw [List.drop_eq_getElem_cons hj] at hp
 have hq := (List.pairwise_cons.1 hp).1
 have h1 : (l.filter fun y => decide (x.1.toNat < y.1.toNat)) = (l.filter fun y => decide (x.1.toNat ≤ y.1.toNat)).filter fun y => decide (x.1.toNat < y.1.toNat) := by
  rw [List.filter_filter]
  refine List.filter_congr fun y _ => ?_
  rw [← Bool.decide_and, decide_eq_decide]
  omega
 rw [h1, ← e2, List.filter_cons_of_neg (by simp [e])]
 symm
 rw [List.filter_eq_self]
 intro y hy
 have := hq y hy
 rw [e] at this
 simpa using this
theorem putT_few (x : Itm) (l : List Itm) : (putT x l).length ≤ l.length + 1 := by
 unfold putT
 rw [zw2, zw2]
 have : ∀ l : List Itm, (l.filter fun y => decide (y.1.toNat < x.1.toNat)).length + (l.filter fun y => decide (x.1.toNat < y.1.toNat)).length ≤ l.length := by
  intro l
  induction l with
  | nil => simp
  | cons y l ih =>
    simp only [List.filter_cons, List.length_cons, decide_eq_true_eq]
    split <;> split <;> (try simp only [List.length_cons]) <;> omega
 have := this l
 simp only [List.length_singleton]
 omega
def cmpK (a k : UInt64) : Int := if a.toNat < k.toNat then -1 else if k.toNat < a.toNat then 1 else 0
end Tr
theorem nan_u (w : World) (a : UInt64) : Calls Tryz.prog 69 #[.int .u64 (a.toNat : Int)] w fun e w' => e = .returned (.bool false) ∧ w = w' := by
 go_enter Tryz.func69, Tryz.ntmps69
 go_wp2
 go_ret
 simp
theorem cmp_u (w : World) (a k : UInt64) : Calls Tryz.prog 55 #[.int .u64 (a.toNat : Int), .int .u64 (k.toNat : Int)] w fun e w' => e = .returned (.int .i64 (Tr.cmpK a k)) ∧ w = w' := by
 have h1 := nan_u w a
 have h2 := nan_u w k
 by_cases q : a.toNat < k.toNat
 · have e : Tr.cmpK a k = -1 := if_pos q
   have z : (a.toNat : Int) < (k.toNat : Int) := by omega
   rw [e]
   clear e q
   go_enter Tryz.func55, Tryz.ntmps55
   go_wp2_with (go_at_call 69; first | (refine h1.mono ?_; rintro e w' ⟨rfl, rfl⟩) | (refine h2.mono ?_; rintro e w' ⟨rfl, rfl⟩))
   go_ret
   exact ⟨rfl, rfl⟩
 · have z : ¬ (a.toNat : Int) < (k.toNat : Int) := by omega
   by_cases q2 : k.toNat < a.toNat
   · have e : Tr.cmpK a k = 1 := by unfold Tr.cmpK; rw [if_neg q, if_pos q2]
     have z2 : (a.toNat : Int) > (k.toNat : Int) := by omega
     rw [e]
     clear e q q2
     go_enter Tryz.func55, Tryz.ntmps55
     go_wp2_with (go_at_call 69; first | (refine h1.mono ?_; rintro e w' ⟨rfl, rfl⟩) | (refine h2.mono ?_; rintro e w' ⟨rfl, rfl⟩))
     go_ret
     exact ⟨rfl, rfl⟩
   · have e : Tr.cmpK a k = 0 := by unfold Tr.cmpK; rw [if_neg q, if_neg q2]
     have z2 : ¬ (a.toNat : Int) > (k.toNat : Int) := by omega
     rw [e]
     clear e q q2
     go_enter Tryz.func55, Tryz.ntmps55
     go_wp2_with (go_at_call 69; first | (refine h1.mono ?_; rintro e w' ⟨rfl, rfl⟩) | (refine h2.mono ?_; rintro e w' ⟨rfl, rfl⟩))
     go_ret
     exact ⟨rfl, rfl⟩
theorem against_u (w : World) (x : Itm) (k : UInt64) : Calls Tryz.prog 37 #[.agg #[.int .u64 (x.1.toNat : Int), .int .u64 (x.2.toNat : Int)], .int .u64 (k.toNat : Int)] w fun e w' => e = .returned (.int .i64 (Tr.cmpK x.1 k)) ∧ Below w.heap.size w w' := by
 obtain ⟨w0, hw0, V0, b0, z0⟩ := q0q w 45 [.int .u64 (x.1.toNat : Int), .int .u64 (x.2.toNat : Int)]
 obtain ⟨r0, r1⟩ := V0.two
 have B0 : Hid _ := b0
 have hc := cmp_u w0 x.1 k
 clear V0 b0 z0
 go_enter Tryz.func37, Tryz.ntmps37
 go_wp2_with (go_at_call 55; refine hc.mono ?_; rintro e w' ⟨rfl, rfl⟩)
 go_ret
 exact ⟨rfl, B0.out⟩
theorem bin_u (w : World) (P : Nat → Prop) (a : Option Addr) (n c : Nat) (l : List Itm) (hL : rItms.rd w P [.slice a n c] l) (hn : n ≤ 1000) (hup : Tr.Up l) (key : UInt64) :
 Calls Tryz.prog 36 #[.slice a n c, .int .u64 (key.toNat : Int), .func (.func 37) #[] #[]] w fun e w' => e = .returned (.tuple #[.int .i64 (Tr.cnt key l : Nat), .bool (Tr.has key l)]) ∧ Below w.heap.size w w' := by
 have HL : Hid _ := hL
 have HN : Hid (l.length = n) := (q0x hL).1
 have HU : Hid (Tr.Up l) := hup
 clear hL hup
 go_enter Tryz.func36, Tryz.ntmps36
 go_wp2
 go_loopw [9, 10] (fun i j wr => ∃ lo hi : Nat, i = .int .i64 lo ∧ j = .int .i64 hi ∧ lo ≤ hi ∧ hi ≤ n ∧ Hid (∀ t (ht : t < l.length), t < lo → l[t].1.toNat < key.toNat) ∧ Hid (∀ t (ht : t < l.length), hi ≤ t → key.toNat ≤ l[t].1.toNat) ∧ Hid (Below w.heap.size w wr)) (fun i j _ => (intOf j).toNat - (intOf i).toNat)
 case atStart => exact ⟨0, n, rfl, rfl, Nat.zero_le _, zw0 _, (fun t ht h => absurd h (Nat.not_lt_zero _)), (fun t ht h => by have := HN.out; omega), Below.refl _ _⟩
 case round =>
  obtain ⟨lo, hi, rfl, rfl, hlh, hin, I, J, B⟩ := hrel
  by_cases hlt : lo < hi
  · obtain ⟨m, hm⟩ : ∃ m, m = (lo + hi) / 2 := ⟨_, rfl⟩
    have hmid : ((lo : Int) + (hi : Int)) / 2 = (m : Int) := by omega
    have hm1 : lo ≤ m := by omega
    have hm2 : m < hi := by omega
    have hml : m < l.length := by have := HN.out; omega
    obtain ⟨g, off, rfl, -, -, hat⟩ := q0Z (Rep.below HL.out B.out) (by omega)
    obtain ⟨c0, c1⟩ := hat m hml
    have hmn : (m : Int) < (n : Int) := by omega
    have hm0 : (0 : Int) ≤ (m : Int) := Int.natCast_nonneg _
    have hc := against_u wr l[m] key
    have HX : Hid (∀ X, X = l[m] → (X.1.toNat < key.toNat → ∀ t (ht : t < l.length), t < m + 1 → l[t].1.toNat < key.toNat) ∧ (¬ X.1.toNat < key.toNat → ∀ t (ht : t < l.length), m ≤ t → key.toNat ≤ l[t].1.toNat)) := by
     rintro X rfl
     have hp := List.pairwise_iff_getElem.1 HU.out
     refine ⟨fun h t ht htm => ?_, fun h t ht htm => ?_⟩
     · rcases Nat.lt_or_ge t m with q | q
       · have := hp t m ht hml q; omega
       · obtain rfl : t = m := by omega
         exact h
     · rcases Nat.lt_or_ge m t with q | q
       · have := hp m t hml ht q; omega
       · obtain rfl : t = m := by omega
         omega
    clear hat hm
    generalize hXe : l[m] = X at *
    have HX2 := HX.out X rfl
    clear HX hXe
    by_cases q : X.1.toNat < key.toNat
    · have e : Tr.cmpK X.1 key = -1 := if_pos q
      rw [e] at hc
      have I2 : Hid _ := HX2.1 q
      clear HX2 e q
      have hw1 : IntKind.i64.wrap ((m : Int) + 1) = ((m + 1 : Nat) : Int) := by rw [IntKind.wrap_i64]; omega
      go_wp2_with (go_at_call 37; refine hc.mono ?_; rintro e w5 ⟨rfl, b5⟩)
      go_roundw
      case measure => simp [intOf]; omega
      case rel => exact ⟨m + 1, hi, rfl, rfl, by omega, hin, I2, J, on B.out b5⟩
    · have J2 : Hid _ := HX2.2 q
      have hnl : ¬ (Tr.cmpK X.1 key < 0) := by unfold Tr.cmpK; rw [if_neg q]; split <;> omega
      clear HX2 q
      generalize Tr.cmpK X.1 key = Y at *
      go_wp2_with (go_at_call 37; refine hc.mono ?_; rintro e w5 ⟨rfl, b5⟩)
      go_roundw
      case measure => simp [intOf]; omega
      case rel => exact ⟨lo, m, rfl, rfl, by omega, by omega, I, J2, on B.out b5⟩
  · obtain rfl : hi = lo := by omega
    have HC : Hid (Tr.cnt key l = hi) := Tr.cnt_of HU.out (by have := HN.out; omega) I.out J.out
    by_cases hend : hi < n
    · have hml : hi < l.length := by have := HN.out; omega
      obtain ⟨g, off, rfl, -, -, hat⟩ := q0Z (Rep.below HL.out B.out) (by omega)
      obtain ⟨c0, c1⟩ := hat hi hml
      have hmn : (hi : Int) < (n : Int) := by omega
      have hm0 : (0 : Int) ≤ (hi : Int) := Int.natCast_nonneg _
      have hc := against_u wr l[hi] key
      have HH : Hid (Tr.has key l = (Tr.cmpK l[hi].1 key == 0)) := by
       unfold Hid
       have h1 := Tr.has_iff (k := key) HU.out
       have hge := J.out hi hml (zw0 _)
       cases hb : Tr.has key l with
       | true =>
         obtain ⟨hj, e⟩ := h1.1 hb
         have e2 : l[hi].1 = key := by rw [← e]; simp only [HC.out]
         unfold Tr.cmpK
         rw [e2, if_neg (by omega), if_neg (by omega)]
         rfl
       | false =>
         have hne : l[hi].1 ≠ key := fun e => by
          rw [h1.2 ⟨by rw [HC.out]; exact hml, by simp only [HC.out]; exact e⟩] at hb
          cases hb
         have hne2 : l[hi].1.toNat ≠ key.toNat := fun e => hne (UInt64.toNat_inj.1 e)
         unfold Tr.cmpK
         rw [if_neg (by omega), if_pos (by omega)]
         rfl
      clear hat
      generalize l[hi] = X at *
      generalize Tr.cmpK X.1 key = Y at *
      go_wp2_with (go_at_call 37; refine hc.mono ?_; rintro e w5 ⟨rfl, b5⟩)
      go_ret2
      exact ⟨by rw [HC.out, HH.out]; rfl, on B.out b5⟩
    · obtain rfl : hi = n := by omega
      have HH : Hid (Tr.has key l = false) := by
       unfold Hid
       have h1 := Tr.has_iff (k := key) HU.out
       cases hb : Tr.has key l with
       | true => obtain ⟨hj, -⟩ := h1.1 hb; rw [HC.out, HN.out] at hj; omega
       | false => rfl
      go_wp2
      go_ret2
      exact ⟨by rw [HC.out, HH.out]; rfl, B.out⟩
theorem q3Z {Pr : Program} (w : World) (dT sT ty : TypeId) (e : TypeId) (hu : Pr.underlying dT = some (.slice e)) (hsz : (Pr.info? e).map (·.size) = some 2)
 (dp sp : Option Addr) (dLen dCap sLen sCap : Nat) (g off : Nat) (cur : List Value) (t : TypeId) (hg : Row w g t cur) (cs : List Value) (hn : cs.length = Nat.min sLen dLen * 2)
 (hpos : 0 < cs.length → dp = some ⟨g, off, none⟩ ∧ ∃ ad, sp = some ad ∧ ∀ (j : Nat) (v : Value), cs[j]? = some v → w.cell? (ad.add j) = some v)
 (hfit : off + cs.length ≤ cur.length) (h1 : ∀ v ∈ cs, v.oneCell' = true) :
 ∃ w', (Builtin.copy_ #[dT, sT] ty #[.slice dp dLen dCap, .slice sp sLen sCap]).run Pr w = .ok (goInt (Nat.min sLen dLen)) w' ∧ Row w' g t (splice cur off cs) ∧ Kept (· ≠ g) w w' ∧ w'.heap.size = w.heap.size := by
 obtain ⟨i, hq⟩ : ∃ i, Pr.info? e = some i := by
  cases hq : Pr.info? e with
  | none => simp [hq] at hsz
  | some i => exact ⟨i, rfl⟩
 have hi : i.size = 2 := by simpa [hq] using hsz
 by_cases h0 : cs.length = 0
 · obtain rfl : cs = [] := List.eq_nil_of_length_eq_zero h0
   have hm : Nat.min sLen dLen = 0 := by simp only [List.length_nil] at hn; omega
   refine ⟨w, ?_, ?_, Kept.refl _ _, rfl⟩
   · rw [hm]
     have hl : ∀ (x : Addr), (loadCells x 0).run Pr w = .ok #[] w := fun x => by simpa using run_loadCells_list (P := Pr) w x [] (by simp)
     cases dp <;> cases sp <;> simp [Builtin.copy_, run_underlying hu, Builtin.lenOf, Builtin.firstCells, sizeOf, typeInfo, hq, hm, storeCells, hl]
   · rw [show splice cur off [] = cur from by simp [splice]]; exact hg
 · obtain ⟨rfl, ad, rfl, hsrc⟩ := hpos (by omega)
   have hl := run_loadCells_list (P := Pr) w ad cs hsrc
   have hst := run_storeCells_at Pr g off t cs 0 cur.toArray w hg.eq (by simpa using hfit) h1
   simp only [Nat.add_zero] at hst
   refine ⟨w.setRow g (splice cur off cs).toArray, ?_, ⟨setRow_heap w g _ _ t _ hg.eq⟩, ⟨rfl, rfl, rfl, by simp, fun k hk => setRow_other w g k _ hk⟩, by simp⟩
   simp [Builtin.copy_, run_underlying hu, Builtin.lenOf, Builtin.firstCells, sizeOf, typeInfo, hq, hi, ← hn, hl, hst, splice]
theorem qKX {Pr : Program} (w : World) (dT ty : TypeId) (e : TypeId) (hu : Pr.underlying dT = some (.slice e)) (z : Value) (hv : ∀ w, (zeroValue e).run Pr w = .ok z w) (hz : z.cells.size = 2) (h1 : ∀ v ∈ z.cells, v.oneCell' = true)
 (dp : Option Addr) (n cap : Nat) (g off : Nat) (cur : List Value) (t : TypeId) (hg : Row w g t cur) (hpos : 0 < n → dp = some ⟨g, off, none⟩) (hfit : off + n * 2 ≤ cur.length) :
 ∃ w' zs, zs.length = n * 2 ∧ (Builtin.clear_ #[dT] ty #[.slice dp n cap]).run Pr w = .ok (.tuple #[]) w' ∧ Row w' g t (splice cur off zs) ∧ Kept (· ≠ g) w w' ∧ w'.heap.size = w.heap.size := by
 by_cases h0 : n = 0
 · subst h0
   refine ⟨w, [], rfl, ?_, ?_, Kept.refl _ _, rfl⟩
   · cases dp <;> simp [Builtin.clear_, run_underlying hu]
   · rw [show splice cur off [] = cur from by simp [splice]]; exact hg
 · obtain rfl := hpos (by omega)
   obtain ⟨zs, hzs⟩ : ∃ zs, zs = (Builtin.zeroCells z.cells n).toList := ⟨_, rfl⟩
   have hzl : zs.length = n * 2 := by rw [hzs, Array.length_toList, size_zeroCells, hz]
   have hst := run_storeCells_at Pr g off t zs 0 cur.toArray w hg.eq (by simpa [hzl] using hfit) (by
    intro v hv'
    rw [hzs] at hv'
    simp only [Builtin.zeroCells, Array.toList_map, List.mem_map] at hv'
    obtain ⟨i, hi, rfl⟩ := hv'
    have hlt : i % z.cells.size < z.cells.size := Nat.mod_lt _ (by omega)
    refine h1 _ ?_
    rw [getElem!_pos z.cells _ hlt]
    exact Array.getElem_mem hlt)
   simp only [Nat.add_zero] at hst
   refine ⟨w.setRow g (splice cur off zs).toArray, zs, hzl, ?_, ⟨setRow_heap w g _ _ t _ hg.eq⟩, ⟨rfl, rfl, rfl, by simp, fun k hk => setRow_other w g k _ hk⟩, by simp⟩
   obtain ⟨m, rfl⟩ : ∃ m, n = m + 1 := ⟨n - 1, by omega⟩
   simp [Builtin.clear_, run_underlying hu, hv, ← hzs, hst, splice]
theorem q3j {α : Type} {L cs : List α} {off : Nat} (h : off ≤ L.length) : (splice L off cs).take (off + cs.length) = L.take off ++ cs := by
 unfold splice
 rw [← List.append_assoc]
 have hl : (L.take off ++ cs).length = off + cs.length := by rw [zw2, zw4]; omega
 rw [← hl]
 exact List.take_left
theorem q5q {α : Type} {L cs : List α} {off k : Nat} (hk : k ≤ off) (h : off ≤ L.length) : (splice L off cs).take k = L.take k := by
 unfold splice
 rw [List.take_append_of_le_length (by rw [zw4]; omega), List.take_take, Nat.min_eq_left hk]
theorem qRz {α : Type} {L cs : List α} {off : Nat} (h : off ≤ L.length) : (splice L off cs).drop off = cs ++ L.drop (off + cs.length) := by
 unfold splice
 rw [List.drop_append_of_le_length (by rw [zw4]; omega)]
 rw [List.drop_of_length_le (by rw [zw4]; omega), List.nil_append]
theorem qGq {α : Type} {L cs : List α} {off k : Nat} (h : off + cs.length ≤ L.length) (hk : off + cs.length ≤ k) : (splice L off cs).drop k = L.drop k := by
 unfold splice
 rw [← List.append_assoc]
 have hl : (L.take off ++ cs).length = off + cs.length := by rw [zw2, zw4]; omega
 rw [List.drop_append, List.drop_of_length_le (by omega), List.nil_append, List.drop_drop, hl]
 congr 1
 omega
end Go.Proofs.YtkbmadoaomoojaaGreat
