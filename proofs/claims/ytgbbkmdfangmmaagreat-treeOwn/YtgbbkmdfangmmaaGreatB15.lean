/-
  Facts that the proof rests on, part 16. Conditions: those that each of them names.
-/
import Derived.Shelf.SlIterI.Nil
import Derived.Shelf.SortM.Plain
import Derived.Shelf.SortM.SortNone
import Derived.Test.YtgbbkmdfangmmaaGreatRows
import Derived.Test.YtgbbkmdfangmmaaGreatB13
namespace Go.Proofs.YtgbbkmdfangmmaaGreat
set_option maxRecDepth 20000
open Go.Shelf
def keysA_ren : Go.Shelf.Ren := ⟨fun | 7 => 38 | 10 => 64 | n => n, fun | 23 => 86 | 26 => 3 | 3 => 88 | 28 => 84 | 0 => 0 | 27 => 83 | 33 => 118 | 4 => 4 | n => n, fun | n => n⟩
theorem keysA : Go.Proofs.SlLaysZI.n7 Tryz.prog keysA_ren :=
  { mixed := by kernel_rfl,
    f7 := ⟨Tryz.f38.name, by decide, Tryz.func38.trans (congrArg some (by kernel_rfl))⟩,
    f10 := ⟨Tryz.f64.name, by decide, Tryz.func64.trans (congrArg some (by kernel_rfl))⟩,
    t0 := Tryz.underlying0,
    a0 := Tryz.isAgg0,
    z0 := Tryz.sizeOf0,
    v0 := Tryz.zeroValue0,
    t4 := Tryz.underlying4,
    a4 := Tryz.isAgg4,
    z4 := Tryz.sizeOf4,
    v4 := Tryz.zeroValue4,
    t23 := Tryz.underlying86,
    a23 := Tryz.isAgg86,
    z23 := Tryz.sizeOf86,
    v23 := Tryz.zeroValue86,
    t26 := Tryz.underlying3,
    a26 := Tryz.isAgg3,
    z26 := Tryz.sizeOf3,
    v26 := Tryz.zeroValue3,
    t27 := Tryz.underlying83,
    a27 := Tryz.isAgg83,
    z27 := Tryz.sizeOf83,
    v27 := Tryz.zeroValue83,
    t28 := Tryz.underlying84,
    a28 := Tryz.isAgg84,
    z28 := Tryz.sizeOf84,
    v28 := Tryz.zeroValue84,
    t33 := Tryz.underlying118,
    a33 := Tryz.isAgg118,
    z33 := Tryz.sizeOf118,
    v33 := Tryz.zeroValue118 }
def sortedA_ren : Go.Shelf.Ren := ⟨fun | 6 => 37 | 8 => 62 | 9 => 63 | 11 => 77 | 13 => 79 | 12 => 78 | 23 => 95 | 24 => 96 | 14 => 86 | 15 => 87 | 16 => 88 | 17 => 89 | 18 => 90 | 19 => 91 | 20 => 92 | 21 => 93 | 22 => 94 | 25 => 111 | 26 => 112 | 27 => 113 | 28 => 114 | 29 => 115 | 30 => 116 | 31 => 135 | n => n, fun | 26 => 3 | 28 => 84 | 24 => 40 | 0 => 0 | 3 => 3 | 37 => 131 | 48 => 161 | 50 => 25 | 4 => 4 | 40 => 155 | 39 => 154 | 45 => 95 | 5 => 5 | 9 => 9 | 51 => 181 | 55 => 185 | 57 => 205 | 58 => 206 | 33 => 118 | n => n, fun | n => n⟩
theorem sortedA : Go.Proofs.SlLaysZI.n6 Tryz.prog sortedA_ren :=
  { mixed := by kernel_rfl,
    f6 := ⟨Tryz.f37.name, by decide, Tryz.func37.trans (congrArg some (by kernel_rfl))⟩,
    f8 := ⟨Tryz.f62.name, by decide, Tryz.func62.trans (congrArg some (by kernel_rfl))⟩,
    f11 := ⟨Tryz.f77.name, by decide, Tryz.func77.trans (congrArg some (by kernel_rfl))⟩,
    t0 := Tryz.underlying0,
    a0 := Tryz.isAgg0,
    z0 := Tryz.sizeOf0,
    v0 := Tryz.zeroValue0,
    t24 := Tryz.underlying40,
    a24 := Tryz.isAgg40,
    z24 := Tryz.sizeOf40,
    v24 := Tryz.zeroValue40,
    t26 := Tryz.underlying3,
    a26 := Tryz.isAgg3,
    z26 := Tryz.sizeOf3,
    v26 := Tryz.zeroValue3,
    t28 := Tryz.underlying84,
    a28 := Tryz.isAgg84,
    z28 := Tryz.sizeOf84,
    v28 := Tryz.zeroValue84,
    i26 := by kernel_rfl }
def sortA_ren : Go.Shelf.Ren := ⟨fun | 5 => 63 | 8 => 79 | 7 => 78 | 19 => 95 | 20 => 96 | 10 => 86 | 11 => 87 | 12 => 88 | 13 => 89 | 14 => 90 | 15 => 91 | 16 => 92 | 17 => 93 | 18 => 94 | 30 => 111 | 31 => 112 | 32 => 113 | 33 => 114 | 34 => 115 | 35 => 116 | 40 => 135 | n => n, fun | 23 => 40 | 25 => 3 | 3 => 3 | 32 => 131 | 22 => 40 | 0 => 0 | 44 => 161 | 46 => 25 | 4 => 4 | 36 => 155 | 35 => 154 | 41 => 95 | 5 => 5 | 9 => 9 | 53 => 181 | 57 => 185 | 63 => 205 | 64 => 206 | n => n, fun | n => n⟩
theorem sortA : Go.Proofs.SlLaysM.n5 Tryz.prog sortA_ren :=
  { mixed := by kernel_rfl,
    f5 := ⟨Tryz.f63.name, by decide, Tryz.func63.trans (congrArg some (by kernel_rfl))⟩,
    f7 := ⟨Tryz.f78.name, by decide, Tryz.func78.trans (congrArg some (by kernel_rfl))⟩,
    f8 := Tryz.func79.trans (congrArg some (by kernel_rfl)),
    f10 := ⟨Tryz.f86.name, by decide, Tryz.func86.trans (congrArg some (by kernel_rfl))⟩,
    f11 := ⟨Tryz.f87.name, by decide, Tryz.func87.trans (congrArg some (by kernel_rfl))⟩,
    f12 := ⟨Tryz.f88.name, by decide, Tryz.func88.trans (congrArg some (by kernel_rfl))⟩,
    f13 := ⟨Tryz.f89.name, by decide, Tryz.func89.trans (congrArg some (by kernel_rfl))⟩,
    f14 := ⟨Tryz.f90.name, by decide, Tryz.func90.trans (congrArg some (by kernel_rfl))⟩,
    f15 := ⟨Tryz.f91.name, by decide, Tryz.func91.trans (congrArg some (by kernel_rfl))⟩,
    f16 := ⟨Tryz.f92.name, by decide, Tryz.func92.trans (congrArg some (by kernel_rfl))⟩,
    f17 := ⟨Tryz.f93.name, by decide, Tryz.func93.trans (congrArg some (by kernel_rfl))⟩,
    f18 := ⟨Tryz.f94.name, by decide, Tryz.func94.trans (congrArg some (by kernel_rfl))⟩,
    f19 := Tryz.func95.trans (congrArg some (by kernel_rfl)),
    f20 := Tryz.func96.trans (congrArg some (by kernel_rfl)),
    f30 := ⟨Tryz.f111.name, by decide, Tryz.func111.trans (congrArg some (by kernel_rfl))⟩,
    f31 := Tryz.func112.trans (congrArg some (by kernel_rfl)),
    f32 := Tryz.func113.trans (congrArg some (by kernel_rfl)),
    f33 := ⟨Tryz.f114.name, by decide, Tryz.func114.trans (congrArg some (by kernel_rfl))⟩,
    f34 := ⟨Tryz.f115.name, by decide, Tryz.func115.trans (congrArg some (by kernel_rfl))⟩,
    f35 := ⟨Tryz.f116.name, by decide, Tryz.func116.trans (congrArg some (by kernel_rfl))⟩,
    f40 := ⟨Tryz.f135.name, by decide, Tryz.func135.trans (congrArg some (by kernel_rfl))⟩,
    t0 := Tryz.underlying0,
    a0 := Tryz.isAgg0,
    z0 := Tryz.sizeOf0,
    v0 := Tryz.zeroValue0,
    t3 := Tryz.underlying3,
    a3 := Tryz.isAgg3,
    z3 := Tryz.sizeOf3,
    v3 := Tryz.zeroValue3,
    t4 := Tryz.underlying4,
    a4 := Tryz.isAgg4,
    z4 := Tryz.sizeOf4,
    v4 := Tryz.zeroValue4,
    t5 := Tryz.underlying5,
    a5 := Tryz.isAgg5,
    z5 := Tryz.sizeOf5,
    v5 := Tryz.zeroValue5,
    t9 := Tryz.underlying9,
    a9 := Tryz.isAgg9,
    z9 := Tryz.sizeOf9,
    v9 := Tryz.zeroValue9,
    t22 := Tryz.underlying40,
    a22 := Tryz.isAgg40,
    z22 := Tryz.sizeOf40,
    v22 := Tryz.zeroValue40,
    t23 := Tryz.underlying40,
    a23 := Tryz.isAgg40,
    z23 := Tryz.sizeOf40,
    v23 := Tryz.zeroValue40,
    t25 := Tryz.underlying3,
    a25 := Tryz.isAgg3,
    z25 := Tryz.sizeOf3,
    v25 := Tryz.zeroValue3,
    t32 := Tryz.underlying131,
    a32 := Tryz.isAgg131,
    z32 := Tryz.sizeOf131,
    v32 := Tryz.zeroValue131,
    t35 := Tryz.underlying154,
    a35 := Tryz.isAgg154,
    z35 := Tryz.sizeOf154,
    v35 := Tryz.zeroValue154,
    t36 := Tryz.underlying155,
    a36 := Tryz.isAgg155,
    z36 := Tryz.sizeOf155,
    v36 := Tryz.zeroValue155,
    t41 := Tryz.underlying95,
    a41 := Tryz.isAgg95,
    z41 := Tryz.sizeOf95,
    v41 := Tryz.zeroValue95,
    t44 := Tryz.underlying161,
    a44 := Tryz.isAgg161,
    z44 := Tryz.sizeOf161,
    v44 := Tryz.zeroValue161,
    t46 := Tryz.underlying25,
    a46 := Tryz.isAgg25,
    z46 := Tryz.sizeOf25,
    v46 := Tryz.zeroValue25,
    t53 := Tryz.underlying181,
    a53 := Tryz.isAgg181,
    z53 := Tryz.sizeOf181,
    v53 := Tryz.zeroValue181,
    t57 := Tryz.underlying185,
    a57 := Tryz.isAgg185,
    z57 := Tryz.sizeOf185,
    v57 := Tryz.zeroValue185,
    t63 := Tryz.underlying205,
    a63 := Tryz.isAgg205,
    z63 := Tryz.sizeOf205,
    v63 := Tryz.zeroValue205,
    t64 := Tryz.underlying206,
    a64 := Tryz.isAgg206,
    z64 := Tryz.sizeOf206,
    v64 := Tryz.zeroValue206 }
end Go.Proofs.YtgbbkmdfangmmaaGreat
namespace Go.Proofs.YtgbbkmdfangmmaaGreat
set_option maxRecDepth 20000
open Go.RowKit
set_option linter.unusedVariables false
namespace Tr
open Lf
def cnt (k : UInt64) (l : List Itm) : Nat := (l.filter fun y => decide (y.1.toNat < k.toNat)).length
def has (k : UInt64) (l : List Itm) : Bool := l.any fun y => decide (y.1 = k)
def putT (x : Itm) (l : List Itm) : List Itm := (l.filter fun y => decide (y.1.toNat < x.1.toNat)) ++ [x] ++ l.filter fun y => decide (x.1.toNat < y.1.toNat)
theorem cut_lt {k : UInt64} : ∀ {l : List Itm}, Up l → l.take (cnt k l) = (l.filter fun y => decide (y.1.toNat < k.toNat)) ∧ l.drop (cnt k l) = l.filter fun y => decide (k.toNat ≤ y.1.toNat)
  | [], _ => by simp [cnt]
  | x :: l, h => by
    obtain ⟨h1, h2⟩ := List.pairwise_cons.1 h
    obtain ⟨e1, e2⟩ := cut_lt (k := k) h2
    unfold cnt at *
    by_cases hx : x.1.toNat < k.toNat
    · rw [List.filter_cons_of_pos (by simpa using hx), List.length_cons, List.take_succ_cons, List.drop_succ_cons, e1, e2, List.filter_cons_of_neg (by simp; omega)]
      exact ⟨rfl, rfl⟩
    · have hn : (l.filter fun y => decide (y.1.toNat < k.toNat)) = [] := by
        rw [List.filter_eq_nil_iff]
        intro y hy
        have := h1 y hy
        simp; omega
      have ha : (l.filter fun y => decide (k.toNat ≤ y.1.toNat)) = l := by
        rw [List.filter_eq_self]
        intro y hy
        have := h1 y hy
        simp; omega
      rw [List.filter_cons_of_neg (by simpa using hx), hn, List.filter_cons_of_pos (by simp; omega), ha]
      exact ⟨rfl, rfl⟩
theorem cnt_le (k : UInt64) (l : List Itm) : cnt k l ≤ l.length := List.length_filter_le _ _
theorem cnt_of {k : UInt64} {l : List Itm} (h : Up l) {i : Nat} (hi : i ≤ l.length) (h1 : ∀ j (hj : j < l.length), j < i → l[j].1.toNat < k.toNat) (h2 : ∀ j (hj : j < l.length), i ≤ j → k.toNat ≤ l[j].1.toNat) : cnt k l = i := by
  obtain ⟨e1, e2⟩ := cut_lt (k := k) h
  have hle := cnt_le k l
  rcases Nat.lt_trichotomy (cnt k l) i with q | q | q
  · exfalso
    have hlt : cnt k l < l.length := by omega
    have h3 := h1 _ hlt q
    have h4 : l[cnt k l] ∈ l.drop (cnt k l) := by
      rw [List.drop_eq_getElem_cons hlt]; exact List.mem_cons_self
    rw [e2] at h4
    have := (List.mem_filter.1 h4).2
    simp only [decide_eq_true_eq] at this
    omega
  · exact q
  · exfalso
    have hlt : i < l.length := by omega
    have h3 := h2 i hlt (Nat.le_refl _)
    have h4 : l[i] ∈ l.take (cnt k l) := by
      rw [List.mem_take_iff_getElem]
      exact ⟨i, by omega, rfl⟩
    rw [e1] at h4
    have := (List.mem_filter.1 h4).2
    simp only [decide_eq_true_eq] at this
    omega
theorem has_iff {k : UInt64} {l : List Itm} (h : Up l) : has k l = true ↔ ∃ hj : cnt k l < l.length, l[cnt k l].1 = k := by
  obtain ⟨e1, e2⟩ := cut_lt (k := k) h
  unfold has
  rw [List.any_eq_true]
  constructor
  · rintro ⟨y, hy, he⟩
    simp only [decide_eq_true_eq] at he
    have hd : y ∈ l.drop (cnt k l) := by rw [e2]; exact List.mem_filter.2 ⟨hy, by simp [he]⟩
    have hlt : cnt k l < l.length := by
      rcases Nat.lt_or_ge (cnt k l) l.length with q | q
      · exact q
      · rw [List.drop_of_length_le q] at hd; cases hd
    refine ⟨hlt, ?_⟩
    rw [List.drop_eq_getElem_cons hlt] at hd e2
    have hge : k.toNat ≤ (l[cnt k l]).1.toNat := by
      have : l[cnt k l] ∈ l.filter fun y => decide (k.toNat ≤ y.1.toNat) := by rw [← e2]; exact List.mem_cons_self
      simpa using (List.mem_filter.1 this).2
    rcases List.mem_cons.1 hd with q | q
    · rw [← q]; exact he
    · have hp : Up (l.drop (cnt k l)) := List.Pairwise.sublist (List.drop_sublist _ _) h
      rw [List.drop_eq_getElem_cons hlt] at hp
      have := (List.pairwise_cons.1 hp).1 y q
      rw [he] at this
      omega
  · rintro ⟨hj, e⟩
    exact ⟨_, List.getElem_mem hj, by simp [e]⟩
theorem putT_new {x : Itm} {l : List Itm} (h : Up l) (hn : has x.1 l = false) : l.take (cnt x.1 l) ++ [x] ++ l.drop (cnt x.1 l) = putT x l := by
  obtain ⟨e1, e2⟩ := cut_lt (k := x.1) h
  unfold putT
  rw [e1, e2]
  congr 1
  refine List.filter_congr fun y hy => ?_
  have : y.1 ≠ x.1 := fun e => by
    have : has x.1 l = true := by unfold has; rw [List.any_eq_true]; exact ⟨y, hy, by simp [e]⟩
    rw [hn] at this; cases this
  have : y.1.toNat ≠ x.1.toNat := fun e => this (UInt64.toNat_inj.1 e)
  simp only [decide_eq_decide]
  omega
theorem putT_old {x : Itm} {l : List Itm} (h : Up l) (hn : has x.1 l = true) : l.set (cnt x.1 l) x = putT x l := by
  obtain ⟨hj, e⟩ := (has_iff h).1 hn
  obtain ⟨e1, e2⟩ := cut_lt (k := x.1) h
  have hs : l.set (cnt x.1 l) x = l.take (cnt x.1 l) ++ [x] ++ l.drop (cnt x.1 l + 1) := by
    rw [List.set_eq_take_append_cons_drop, if_pos hj, List.append_assoc]; rfl
  rw [hs, e1]
  unfold putT
  congr 1
  rw [List.drop_eq_getElem_cons hj] at e2
  have hp : Up (l.drop (cnt x.1 l)) := List.Pairwise.sublist (List.drop_sublist _ _) h
  rw [List.drop_eq_getElem_cons hj] at hp
  have hq := (List.pairwise_cons.1 hp).1
  have h1 : (l.filter fun y => decide (x.1.toNat < y.1.toNat)) = (l.filter fun y => decide (x.1.toNat ≤ y.1.toNat)).filter fun y => decide (x.1.toNat < y.1.toNat) := by
    rw [List.filter_filter]
    refine List.filter_congr fun y _ => ?_
    rw [← Bool.decide_and, decide_eq_decide]
    omega
  rw [h1, ← e2, List.filter_cons_of_neg (by simp [e])]
  symm
  rw [List.filter_eq_self]
  intro y hy
  have := hq y hy
  rw [e] at this
  simpa using this
theorem putT_few (x : Itm) (l : List Itm) : (putT x l).length ≤ l.length + 1 := by
  unfold putT
  rw [List.length_append, List.length_append]
  have : ∀ l : List Itm, (l.filter fun y => decide (y.1.toNat < x.1.toNat)).length + (l.filter fun y => decide (x.1.toNat < y.1.toNat)).length ≤ l.length := by
    intro l
    induction l with
    | nil => simp
    | cons y l ih =>
      simp only [List.filter_cons, List.length_cons, decide_eq_true_eq]
      split <;> split <;> (try simp only [List.length_cons]) <;> omega
  have := this l
  simp only [List.length_singleton]
  omega
def cmpK (a k : UInt64) : Int := if a.toNat < k.toNat then -1 else if k.toNat < a.toNat then 1 else 0
end Tr
theorem nan_u (w : World) (a : UInt64) : Calls Tryz.prog 83 #[.int .u64 (a.toNat : Int)] w fun e w' => e = .returned (.bool false) ∧ w = w' := by
  go_enter Tryz.func83, Tryz.ntmps83
  go_wp2
  go_ret
  simp
theorem cmp_u (w : World) (a k : UInt64) : Calls Tryz.prog 69 #[.int .u64 (a.toNat : Int), .int .u64 (k.toNat : Int)] w fun e w' => e = .returned (.int .i64 (Tr.cmpK a k)) ∧ w = w' := by
  have h1 := nan_u w a
  have h2 := nan_u w k
  by_cases q : a.toNat < k.toNat
  · have e : Tr.cmpK a k = -1 := if_pos q
    have z : (a.toNat : Int) < (k.toNat : Int) := by omega
    rw [e]
    clear e q
    go_enter Tryz.func69, Tryz.ntmps69
    go_wp2_with (go_at_call 83; first | (refine h1.mono ?_; rintro e w' ⟨rfl, rfl⟩) | (refine h2.mono ?_; rintro e w' ⟨rfl, rfl⟩))
    go_ret
    exact ⟨rfl, rfl⟩
  · have z : ¬ (a.toNat : Int) < (k.toNat : Int) := by omega
    by_cases q2 : k.toNat < a.toNat
    · have e : Tr.cmpK a k = 1 := by unfold Tr.cmpK; rw [if_neg q, if_pos q2]
      have z2 : (a.toNat : Int) > (k.toNat : Int) := by omega
      rw [e]
      clear e q q2
      go_enter Tryz.func69, Tryz.ntmps69
      go_wp2_with (go_at_call 83; first | (refine h1.mono ?_; rintro e w' ⟨rfl, rfl⟩) | (refine h2.mono ?_; rintro e w' ⟨rfl, rfl⟩))
      go_ret
      exact ⟨rfl, rfl⟩
    · have e : Tr.cmpK a k = 0 := by unfold Tr.cmpK; rw [if_neg q, if_neg q2]
      have z2 : ¬ (a.toNat : Int) > (k.toNat : Int) := by omega
      rw [e]
      clear e q q2
      go_enter Tryz.func69, Tryz.ntmps69
      go_wp2_with (go_at_call 83; first | (refine h1.mono ?_; rintro e w' ⟨rfl, rfl⟩) | (refine h2.mono ?_; rintro e w' ⟨rfl, rfl⟩))
      go_ret
      exact ⟨rfl, rfl⟩
theorem against_u (w : World) (x : Itm) (k : UInt64) : Calls Tryz.prog 43 #[.agg #[.int .u64 (x.1.toNat : Int), .int .u64 (x.2.toNat : Int)], .int .u64 (k.toNat : Int)] w fun e w' => e = .returned (.int .i64 (Tr.cmpK x.1 k)) ∧ Below w.heap.size w w' := by
  obtain ⟨w0, hw0, V0, b0, z0⟩ := boxedRow w 29 [.int .u64 (x.1.toNat : Int), .int .u64 (x.2.toNat : Int)]
  obtain ⟨r0, r1⟩ := V0.two
  have B0 : Hid (Below w.heap.size w w0) := b0
  have hc := cmp_u w0 x.1 k
  clear V0 b0 z0
  go_enter Tryz.func43, Tryz.ntmps43
  go_wp2_with (go_at_call 69; refine hc.mono ?_; rintro e w' ⟨rfl, rfl⟩)
  go_ret
  exact ⟨rfl, B0.out⟩
end Go.Proofs.YtgbbkmdfangmmaaGreat
namespace Go.Proofs.YtgbbkmdfangmmaaGreat
set_option maxRecDepth 20000
open Go.RowKit
set_option linter.unusedVariables false
set_option maxHeartbeats 1000000 in
theorem bin_u (w : World) (P : Nat → Prop) (a : Option Addr) (n c : Nat) (l : List Itm) (hL : rItms.rd w P [.slice a n c] l) (hn : n ≤ 1000) (hup : Tr.Up l) (key : UInt64) :
    Calls Tryz.prog 42 #[.slice a n c, .int .u64 (key.toNat : Int), .func (.func 43) #[] #[]] w fun e w' => e = .returned (.tuple #[.int .i64 (Tr.cnt key l : Nat), .bool (Tr.has key l)]) ∧ Below w.heap.size w w' := by
  have HL : Hid _ := hL
  have HN : Hid (l.length = n) := (rList_len hL).1
  have HU : Hid (Tr.Up l) := hup
  clear hL hup
  go_enter Tryz.func42, Tryz.ntmps42
  go_wp2
  go_loopw [9, 10] (fun i j wr => ∃ lo hi : Nat, i = .int .i64 lo ∧ j = .int .i64 hi ∧ lo ≤ hi ∧ hi ≤ n ∧ Hid (∀ t (ht : t < l.length), t < lo → l[t].1.toNat < key.toNat) ∧ Hid (∀ t (ht : t < l.length), hi ≤ t → key.toNat ≤ l[t].1.toNat) ∧ Hid (Below w.heap.size w wr)) (fun i j _ => (intOf j).toNat - (intOf i).toNat)
  case atStart => exact ⟨0, n, rfl, rfl, Nat.zero_le _, Nat.le_refl _, (fun t ht h => absurd h (Nat.not_lt_zero _)), (fun t ht h => by have := HN.out; omega), Below.refl _ _⟩
  case round =>
    obtain ⟨lo, hi, rfl, rfl, hlh, hin, I, J, B⟩ := hrel
    by_cases hlt : lo < hi
    · obtain ⟨m, hm⟩ : ∃ m, m = (lo + hi) / 2 := ⟨_, rfl⟩
      have hmid : ((lo : Int) + (hi : Int)) / 2 = (m : Int) := by omega
      have hm1 : lo ≤ m := by omega
      have hm2 : m < hi := by omega
      have hml : m < l.length := by have := HN.out; omega
      obtain ⟨g, off, rfl, -, -, hat⟩ := rItms_at (Rep.below HL.out B.out) (by omega)
      obtain ⟨c0, c1⟩ := hat m hml
      have hmn : (m : Int) < (n : Int) := by omega
      have hm0 : (0 : Int) ≤ (m : Int) := Int.natCast_nonneg _
      have hc := against_u wr l[m] key
      have HX : Hid (∀ X, X = l[m] → (X.1.toNat < key.toNat → ∀ t (ht : t < l.length), t < m + 1 → l[t].1.toNat < key.toNat) ∧ (¬ X.1.toNat < key.toNat → ∀ t (ht : t < l.length), m ≤ t → key.toNat ≤ l[t].1.toNat)) := by
        rintro X rfl
        have hp := List.pairwise_iff_getElem.1 HU.out
        refine ⟨fun h t ht htm => ?_, fun h t ht htm => ?_⟩
        · rcases Nat.lt_or_ge t m with q | q
          · have := hp t m ht hml q; omega
          · obtain rfl : t = m := by omega
            exact h
        · rcases Nat.lt_or_ge m t with q | q
          · have := hp m t hml ht q; omega
          · obtain rfl : t = m := by omega
            omega
      clear hat hm
      generalize hXe : l[m] = X at *
      have HX2 := HX.out X rfl
      clear HX hXe
      by_cases q : X.1.toNat < key.toNat
      · have e : Tr.cmpK X.1 key = -1 := if_pos q
        rw [e] at hc
        have I2 : Hid _ := HX2.1 q
        clear HX2 e q
        have hw1 : IntKind.i64.wrap ((m : Int) + 1) = ((m + 1 : Nat) : Int) := by rw [IntKind.wrap_i64]; omega
        go_wp2_with (go_at_call 43; refine hc.mono ?_; rintro e w5 ⟨rfl, b5⟩)
        go_roundw
        case measure => simp [intOf]; omega
        case rel => exact ⟨m + 1, hi, rfl, rfl, by omega, hin, I2, J, on B.out b5⟩
      · have J2 : Hid _ := HX2.2 q
        have hnl : ¬ (Tr.cmpK X.1 key < 0) := by unfold Tr.cmpK; rw [if_neg q]; split <;> omega
        clear HX2 q
        generalize Tr.cmpK X.1 key = Y at *
        go_wp2_with (go_at_call 43; refine hc.mono ?_; rintro e w5 ⟨rfl, b5⟩)
        go_roundw
        case measure => simp [intOf]; omega
        case rel => exact ⟨lo, m, rfl, rfl, by omega, by omega, I, J2, on B.out b5⟩
    · obtain rfl : hi = lo := by omega
      have HC : Hid (Tr.cnt key l = hi) := Tr.cnt_of HU.out (by have := HN.out; omega) I.out J.out
      by_cases hend : hi < n
      · have hml : hi < l.length := by have := HN.out; omega
        obtain ⟨g, off, rfl, -, -, hat⟩ := rItms_at (Rep.below HL.out B.out) (by omega)
        obtain ⟨c0, c1⟩ := hat hi hml
        have hmn : (hi : Int) < (n : Int) := by omega
        have hm0 : (0 : Int) ≤ (hi : Int) := Int.natCast_nonneg _
        have hc := against_u wr l[hi] key
        have HH : Hid (Tr.has key l = (Tr.cmpK l[hi].1 key == 0)) := by
          unfold Hid
          have h1 := Tr.has_iff (k := key) HU.out
          have hge := J.out hi hml (Nat.le_refl _)
          cases hb : Tr.has key l with
          | true =>
            obtain ⟨hj, e⟩ := h1.1 hb
            have e2 : l[hi].1 = key := by rw [← e]; simp only [HC.out]
            unfold Tr.cmpK
            rw [e2, if_neg (by omega), if_neg (by omega)]
            rfl
          | false =>
            have hne : l[hi].1 ≠ key := fun e => by
              rw [h1.2 ⟨by rw [HC.out]; exact hml, by simp only [HC.out]; exact e⟩] at hb
              cases hb
            have hne2 : l[hi].1.toNat ≠ key.toNat := fun e => hne (UInt64.toNat_inj.1 e)
            unfold Tr.cmpK
            rw [if_neg (by omega), if_pos (by omega)]
            rfl
        clear hat
        generalize l[hi] = X at *
        generalize Tr.cmpK X.1 key = Y at *
        go_wp2_with (go_at_call 43; refine hc.mono ?_; rintro e w5 ⟨rfl, b5⟩)
        go_ret2
        exact ⟨by rw [HC.out, HH.out]; rfl, on B.out b5⟩
      · obtain rfl : hi = n := by omega
        have HH : Hid (Tr.has key l = false) := by
          unfold Hid
          have h1 := Tr.has_iff (k := key) HU.out
          cases hb : Tr.has key l with
          | true => obtain ⟨hj, -⟩ := h1.1 hb; rw [HC.out, HN.out] at hj; omega
          | false => rfl
        go_wp2
        go_ret2
        exact ⟨by rw [HC.out, HH.out]; rfl, B.out⟩
end Go.Proofs.YtgbbkmdfangmmaaGreat
