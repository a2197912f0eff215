/-
  Facts that the proof rests on, part 9. Conditions: those that each of them names.
-/
import Derived.Lib.AppendZeros
import Derived.Shelf.SlSortCmp.NoneTotal
import Derived.Shelf.SlSortCmp.WholeK
import Derived.Test.YtinlgoljaiolnaaRows
import Derived.Test.YtinlgoljaiolnaaBK01
import Derived.Test.YtinlgoljaiolnaaBK02
import Derived.Test.YtinlgoljaiolnaaBK04
import Derived.Test.YtinlgoljaiolnaaBK05
import Derived.Test.YtinlgoljaiolnaaBK07
namespace Go.Proofs.Ytinlgoljaiolnaa
open Go.Shelf
def sortRfr_ren : Go.Shelf.Ren := ⟨fun | 6 => 66 | 15 => 70 | 14 => 78 | 28 => 87 | 29 => 88 | 20 => 93 | 21 => 94 | 22 => 95 | 23 => 96 | 24 => 97 | 25 => 98 | 26 => 99 | 27 => 100 | 46 => 106 | 47 => 102 | 48 => 103 | 49 => 107 | 50 => 108 | 57 => 110 | n => n, fun | 22 => 27 | 24 => 63 | 25 => 124 | 3 => 3 | 39 => 127 | 0 => 0 | 53 => 145 | 55 => 147 | 4 => 4 | 46 => 138 | 45 => 137 | 50 => 142 | 5 => 5 | 9 => 9 | 66 => 155 | 70 => 159 | 76 => 163 | 77 => 164 | n => n, fun | n => n⟩
theorem sortRfr : Go.Proofs.SlLaysF0.n6 Try.prog sortRfr_ren :=
  { mixed := by kernel_rfl,
    f6 := ⟨Try.f66.name, by decide, Try.func66.trans (congrArg some (by kernel_rfl))⟩,
    f14 := ⟨Try.f78.name, by decide, Try.func78.trans (congrArg some (by kernel_rfl))⟩,
    f15 := Try.func70.trans (congrArg some (by kernel_rfl)),
    f20 := ⟨Try.f93.name, by decide, Try.func93.trans (congrArg some (by kernel_rfl))⟩,
    f21 := ⟨Try.f94.name, by decide, Try.func94.trans (congrArg some (by kernel_rfl))⟩,
    f22 := ⟨Try.f95.name, by decide, Try.func95.trans (congrArg some (by kernel_rfl))⟩,
    f23 := ⟨Try.f96.name, by decide, Try.func96.trans (congrArg some (by kernel_rfl))⟩,
    f24 := ⟨Try.f97.name, by decide, Try.func97.trans (congrArg some (by kernel_rfl))⟩,
    f25 := ⟨Try.f98.name, by decide, Try.func98.trans (congrArg some (by kernel_rfl))⟩,
    f26 := ⟨Try.f99.name, by decide, Try.func99.trans (congrArg some (by kernel_rfl))⟩,
    f27 := ⟨Try.f100.name, by decide, Try.func100.trans (congrArg some (by kernel_rfl))⟩,
    f28 := Try.func87.trans (congrArg some (by kernel_rfl)),
    f29 := Try.func88.trans (congrArg some (by kernel_rfl)),
    f46 := ⟨Try.f106.name, by decide, Try.func106.trans (congrArg some (by kernel_rfl))⟩,
    f47 := Try.func102.trans (congrArg some (by kernel_rfl)),
    f48 := Try.func103.trans (congrArg some (by kernel_rfl)),
    f49 := ⟨Try.f107.name, by decide, Try.func107.trans (congrArg some (by kernel_rfl))⟩,
    f50 := ⟨Try.f108.name, by decide, Try.func108.trans (congrArg some (by kernel_rfl))⟩,
    f57 := ⟨Try.f110.name, by decide, Try.func110.trans (congrArg some (by kernel_rfl))⟩,
    t0 := Try.underlying0,
    a0 := Try.isAgg0,
    z0 := Try.sizeOf0,
    v0 := Try.zeroValue0,
    t3 := Try.underlying3,
    a3 := Try.isAgg3,
    z3 := Try.sizeOf3,
    v3 := Try.zeroValue3,
    t4 := Try.underlying4,
    a4 := Try.isAgg4,
    z4 := Try.sizeOf4,
    v4 := Try.zeroValue4,
    t5 := Try.underlying5,
    a5 := Try.isAgg5,
    z5 := Try.sizeOf5,
    v5 := Try.zeroValue5,
    t9 := Try.underlying9,
    a9 := Try.isAgg9,
    z9 := Try.sizeOf9,
    v9 := Try.zeroValue9,
    t22 := Try.underlying27,
    a22 := Try.isAgg27,
    z22 := Try.sizeOf27,
    v22 := Try.zeroValue27,
    t25 := Try.underlying124,
    a25 := Try.isAgg124,
    z25 := Try.sizeOf124,
    v25 := Try.zeroValue124,
    t39 := Try.underlying127,
    a39 := Try.isAgg127,
    z39 := Try.sizeOf127,
    v39 := Try.zeroValue127,
    t45 := Try.underlying137,
    a45 := Try.isAgg137,
    z45 := Try.sizeOf137,
    v45 := Try.zeroValue137,
    t46 := Try.underlying138,
    a46 := Try.isAgg138,
    z46 := Try.sizeOf138,
    v46 := Try.zeroValue138,
    t50 := Try.underlying142,
    a50 := Try.isAgg142,
    z50 := Try.sizeOf142,
    v50 := Try.zeroValue142,
    t53 := Try.underlying145,
    a53 := Try.isAgg145,
    z53 := Try.sizeOf145,
    v53 := Try.zeroValue145,
    t55 := Try.underlying147,
    a55 := Try.isAgg147,
    z55 := Try.sizeOf147,
    v55 := Try.zeroValue147,
    t66 := Try.underlying155,
    a66 := Try.isAgg155,
    z66 := Try.sizeOf155,
    v66 := Try.zeroValue155,
    t70 := Try.underlying159,
    a70 := Try.isAgg159,
    z70 := Try.sizeOf159,
    v70 := Try.zeroValue159,
    t76 := Try.underlying163,
    a76 := Try.isAgg163,
    z76 := Try.sizeOf163,
    v76 := Try.zeroValue163,
    t77 := Try.underlying164,
    a77 := Try.isAgg164,
    z77 := Try.sizeOf164,
    v77 := Try.zeroValue164 }
end Go.Proofs.Ytinlgoljaiolnaa
namespace Go.Proofs.Ytinlgoljaiolnaa
open Go.Shelf
def sortEdg_ren : Go.Shelf.Ren := ⟨fun | 6 => 54 | 15 => 70 | 14 => 69 | 28 => 87 | 29 => 88 | 20 => 79 | 21 => 80 | 22 => 81 | 23 => 82 | 24 => 83 | 25 => 84 | 26 => 85 | 27 => 86 | 46 => 101 | 47 => 102 | 48 => 103 | 49 => 104 | 50 => 105 | 57 => 109 | n => n, fun | 22 => 106 | 24 => 108 | 25 => 111 | 3 => 3 | 39 => 127 | 0 => 0 | 53 => 145 | 55 => 147 | 4 => 4 | 46 => 138 | 45 => 137 | 50 => 142 | 5 => 5 | 9 => 9 | 66 => 155 | 70 => 159 | 76 => 163 | 77 => 164 | n => n, fun | n => n⟩
theorem sortEdg : Go.Proofs.SlLaysF0.n6 Try.prog sortEdg_ren :=
  { mixed := by kernel_rfl,
    f6 := ⟨Try.f54.name, by decide, Try.func54.trans (congrArg some (by kernel_rfl))⟩,
    f14 := ⟨Try.f69.name, by decide, Try.func69.trans (congrArg some (by kernel_rfl))⟩,
    f15 := Try.func70.trans (congrArg some (by kernel_rfl)),
    f20 := ⟨Try.f79.name, by decide, Try.func79.trans (congrArg some (by kernel_rfl))⟩,
    f21 := ⟨Try.f80.name, by decide, Try.func80.trans (congrArg some (by kernel_rfl))⟩,
    f22 := ⟨Try.f81.name, by decide, Try.func81.trans (congrArg some (by kernel_rfl))⟩,
    f23 := ⟨Try.f82.name, by decide, Try.func82.trans (congrArg some (by kernel_rfl))⟩,
    f24 := ⟨Try.f83.name, by decide, Try.func83.trans (congrArg some (by kernel_rfl))⟩,
    f25 := ⟨Try.f84.name, by decide, Try.func84.trans (congrArg some (by kernel_rfl))⟩,
    f26 := ⟨Try.f85.name, by decide, Try.func85.trans (congrArg some (by kernel_rfl))⟩,
    f27 := ⟨Try.f86.name, by decide, Try.func86.trans (congrArg some (by kernel_rfl))⟩,
    f28 := Try.func87.trans (congrArg some (by kernel_rfl)),
    f29 := Try.func88.trans (congrArg some (by kernel_rfl)),
    f46 := ⟨Try.f101.name, by decide, Try.func101.trans (congrArg some (by kernel_rfl))⟩,
    f47 := Try.func102.trans (congrArg some (by kernel_rfl)),
    f48 := Try.func103.trans (congrArg some (by kernel_rfl)),
    f49 := ⟨Try.f104.name, by decide, Try.func104.trans (congrArg some (by kernel_rfl))⟩,
    f50 := ⟨Try.f105.name, by decide, Try.func105.trans (congrArg some (by kernel_rfl))⟩,
    f57 := ⟨Try.f109.name, by decide, Try.func109.trans (congrArg some (by kernel_rfl))⟩,
    t0 := Try.underlying0,
    a0 := Try.isAgg0,
    z0 := Try.sizeOf0,
    v0 := Try.zeroValue0,
    t3 := Try.underlying3,
    a3 := Try.isAgg3,
    z3 := Try.sizeOf3,
    v3 := Try.zeroValue3,
    t4 := Try.underlying4,
    a4 := Try.isAgg4,
    z4 := Try.sizeOf4,
    v4 := Try.zeroValue4,
    t5 := Try.underlying5,
    a5 := Try.isAgg5,
    z5 := Try.sizeOf5,
    v5 := Try.zeroValue5,
    t9 := Try.underlying9,
    a9 := Try.isAgg9,
    z9 := Try.sizeOf9,
    v9 := Try.zeroValue9,
    t22 := Try.underlying106,
    a22 := Try.isAgg106,
    z22 := Try.sizeOf106,
    v22 := Try.zeroValue106,
    t25 := Try.underlying111,
    a25 := Try.isAgg111,
    z25 := Try.sizeOf111,
    v25 := Try.zeroValue111,
    t39 := Try.underlying127,
    a39 := Try.isAgg127,
    z39 := Try.sizeOf127,
    v39 := Try.zeroValue127,
    t45 := Try.underlying137,
    a45 := Try.isAgg137,
    z45 := Try.sizeOf137,
    v45 := Try.zeroValue137,
    t46 := Try.underlying138,
    a46 := Try.isAgg138,
    z46 := Try.sizeOf138,
    v46 := Try.zeroValue138,
    t50 := Try.underlying142,
    a50 := Try.isAgg142,
    z50 := Try.sizeOf142,
    v50 := Try.zeroValue142,
    t53 := Try.underlying145,
    a53 := Try.isAgg145,
    z53 := Try.sizeOf145,
    v53 := Try.zeroValue145,
    t55 := Try.underlying147,
    a55 := Try.isAgg147,
    z55 := Try.sizeOf147,
    v55 := Try.zeroValue147,
    t66 := Try.underlying155,
    a66 := Try.isAgg155,
    z66 := Try.sizeOf155,
    v66 := Try.zeroValue155,
    t70 := Try.underlying159,
    a70 := Try.isAgg159,
    z70 := Try.sizeOf159,
    v70 := Try.zeroValue159,
    t76 := Try.underlying163,
    a76 := Try.isAgg163,
    z76 := Try.sizeOf163,
    v76 := Try.zeroValue163,
    t77 := Try.underlying164,
    a77 := Try.isAgg164,
    z77 := Try.sizeOf164,
    v77 := Try.zeroValue164 }
end Go.Proofs.Ytinlgoljaiolnaa
namespace Go.Proofs.Ytinlgoljaiolnaa
open Go.RowKit
set_option linter.unusedVariables false
def cmp3 (a b : Int) : Int := if a < b then -1 else if b < a then 1 else 0
set_option maxHeartbeats 800000 in
theorem cmp_u (w : World) (a b : Int) : Calls Try.prog 56 #[.int .i64 a, .int .i64 b] w fun e w' => e = .returned (.int .i64 (cmp3 a b)) ∧ w = w' := by
  by_cases h1 : a < b
  · have HE : Hid (cmp3 a b = -1) := if_pos h1
    go_enter Try.func56, Try.ntmps56
    go_wp2
    go_ret
    exact ⟨by rw [HE.out]; rfl, rfl⟩
  · by_cases h2 : b < a
    · have HE : Hid (cmp3 a b = 1) := by unfold Hid cmp3; rw [if_neg h1, if_pos h2]
      go_enter Try.func56, Try.ntmps56
      go_wp2
      go_ret
      exact ⟨by rw [HE.out]; rfl, rfl⟩
    · have HE : Hid (cmp3 a b = 0) := by unfold Hid cmp3; rw [if_neg h1, if_neg h2]
      go_enter Try.func56, Try.ntmps56
      go_wp2
      go_ret
      exact ⟨by rw [HE.out]; rfl, rfl⟩
def orL : List Int → Int
  | [] => 0
  | x :: l => if x = 0 then orL l else x
def Zeros (l : List Int) : Prop := ∀ x ∈ l, x = 0
theorem orL_zeros : ∀ {l m : List Int}, Zeros l → orL (l ++ m) = orL m
  | [], m, _ => rfl
  | x :: l, m, h => by
    show (if x = 0 then orL (l ++ m) else x) = _
    rw [if_pos (h x (by simp))]
    exact orL_zeros (fun y hy => h y (by simp [hy]))
set_option maxHeartbeats 1600000 in
theorem or_u (w : World) (g : Nat) (l : List Int) (hl : l.length = 3) (hc : ∀ (j : Nat) (h : j < l.length), w.cell? ⟨g, j, none⟩ = some (.int .i64 l[j])) :
    Calls Try.prog 68 #[.slice (some ⟨g, 0, none⟩) 3 3] w fun e w' => e = .returned (.int .i64 (orL l)) ∧ w = w' := by
  have HL : Hid _ := hl
  have HC : Hid _ := hc
  clear hl hc
  go_enter Try.func68, Try.ntmps68
  go_wp2
  go_loopw [8] (fun i wr => ∃ k : Nat, k ≤ 3 ∧ i = .int .i64 k ∧ Hid (Zeros (l.take k)) ∧ w = wr) (fun i _ => 3 - (intOf i).toNat)
  case atStart => exact ⟨0, Nat.zero_le _, rfl, (fun x hx => by cases hx), rfl⟩
  case round =>
    obtain ⟨k, hk, rfl, HZ, rfl⟩ := hrel
    by_cases hlt : k < 3
    · have hkl : k < l.length := by rw [HL.out]; exact hlt
      have c0 := HC.out k hkl
      have HO : Hid (orL l = orL (l.drop k)) := by
        unfold Hid
        have h := orL_zeros (m := l.drop k) HZ.out
        rwa [List.take_append_drop] at h
      have HD : Hid (l.drop k = l[k] :: l.drop (k + 1)) := List.drop_eq_getElem_cons hkl
      have HT : Hid (l.take (k + 1) = l.take k ++ [l[k]]) := List.take_succ_eq_append_getElem hkl
      generalize hX : l[k] = X at *
      clear hX
      by_cases hz : X = 0
      · subst hz
        have HN : Hid (Zeros (l.take (k + 1))) := by
          unfold Hid
          rw [HT.out]
          intro y hy
          rcases List.mem_append.1 hy with hy | hy
          · exact HZ.out y hy
          · exact List.mem_singleton.1 hy
        go_wp2
        go_roundw
        case rel => exact ⟨k + 1, by omega, by go_num, HN, by first | rfl | trivial⟩
        case measure => simp [intOf]; omega
      · have HR : Hid (orL l = X) := by unfold Hid; rw [HO.out, HD.out]; show (if X = 0 then _ else X) = X; rw [if_neg hz]
        go_wp2
        go_ret
        exact ⟨by rw [HR.out]; rfl, rfl⟩
    · obtain rfl : k = 3 := by omega
      have HR : Hid (orL l = 0) := by
        unfold Hid
        have h := orL_zeros (m := []) HZ.out
        rw [List.append_nil, List.take_of_length_le (by rw [HL.out]; exact Nat.le_refl _)] at h
        exact h
      go_wp2
      go_ret
      exact ⟨by rw [HR.out]; rfl, rfl⟩
def cmpR (x y : Rfr) : Int := orL [cmp3 x.1 y.1, cmp3 x.2.2.1 y.2.2.1, cmp3 x.2.2.2 y.2.2.2]
def cmpE (x y : Spn) : Int := cmp3 x.1 y.1
theorem Row.four {w : World} {b : Nat} {t : TypeId} {x0 x1 x2 x3 : Value} (V : Row w b t [x0, x1, x2, x3]) : w.cell? ⟨b, 0, none⟩ = some x0 ∧ w.cell? ⟨b, 1, none⟩ = some x1 ∧ w.cell? ⟨b, 2, none⟩ = some x2 ∧ w.cell? ⟨b, 3, none⟩ = some x3 := ⟨V.cell (j := 0) rfl, V.cell (j := 1) rfl, V.cell (j := 2) rfl, V.cell (j := 3) rfl⟩
set_option maxHeartbeats 800000 in
theorem cmpE_u (x y : Spn) (W : World) : Calls Try.prog 55 #[.agg #[.int .i64 x.1, .int .i64 x.2], .agg #[.int .i64 y.1, .int .i64 y.2]] W fun e w' => e = .returned (.int .i64 (cmpE x y)) ∧ ∃ q os', w' = Sort.grow (W.drewN q) os' := by
  have hcon := fun W' => cmp_u W' x.1 y.1
  rw [show cmpE x y = cmp3 x.1 y.1 from rfl]
  generalize cmp3 x.1 y.1 = r at hcon ⊢
  go_enter Try.func55, Try.ntmps55
  go_wp2_with (go_at_call 56; refine (hcon _).mono ?_; rintro e w' ⟨rfl, rfl⟩)
  go_ret
  exact ⟨rfl, 0, _, by rw [Sort.alloc_eq_grow, Sort.alloc_eq_grow, Sort.grow_grow]; rfl⟩
set_option maxHeartbeats 4000000 in
theorem cmpR_u (x y : Rfr) (W : World) : Calls Try.prog 67 #[.agg #[.int .i64 x.1, .int .i64 x.2.1, .int .i64 x.2.2.1, .int .i64 x.2.2.2], .agg #[.int .i64 y.1, .int .i64 y.2.1, .int .i64 y.2.2.1, .int .i64 y.2.2.2]] W fun e w' => e = .returned (.int .i64 (cmpR x y)) ∧ ∃ q os', w' = Sort.grow (W.drewN q) os' := by
  have h1 : Hid (∀ W', _) := fun W' => cmp_u W' x.1 y.1
  have h2 : Hid (∀ W', _) := fun W' => cmp_u W' x.2.2.1 y.2.2.1
  have h3 : Hid (∀ W', _) := fun W' => cmp_u W' x.2.2.2 y.2.2.2
  rw [show cmpR x y = orL [cmp3 x.1 y.1, cmp3 x.2.2.1 y.2.2.1, cmp3 x.2.2.2 y.2.2.2] from rfl]
  generalize cmp3 x.1 y.1 = r1 at *
  generalize cmp3 x.2.2.1 y.2.2.1 = r2 at *
  generalize cmp3 x.2.2.2 y.2.2.2 = r3 at *
  have h4 : Hid (∀ (W' : World) (g : Nat) (hc : ∀ (j : Nat) (h : j < [r1, r2, r3].length), W'.cell? ⟨g, j, none⟩ = some (.int .i64 [r1, r2, r3][j])), _) := fun W' g hc => or_u W' g [r1, r2, r3] rfl hc
  generalize orL [r1, r2, r3] = rr at *
  obtain ⟨W1, hW1, V1, b1, z1⟩ := boxedRow W 63 [.int .i64 x.1, .int .i64 x.2.1, .int .i64 x.2.2.1, .int .i64 x.2.2.2]
  obtain ⟨W2, hW2, V2, b2, z2⟩ := boxedRow W1 63 [.int .i64 y.1, .int .i64 y.2.1, .int .i64 y.2.2.1, .int .i64 y.2.2.2]
  have HS : Hid (((W2.cell? ⟨W.heap.size, 0, none⟩ = some (.int .i64 x.1) ∧ W2.cell? ⟨W.heap.size, 1, none⟩ = some (.int .i64 x.2.1) ∧ W2.cell? ⟨W.heap.size, 2, none⟩ = some (.int .i64 x.2.2.1) ∧ W2.cell? ⟨W.heap.size, 3, none⟩ = some (.int .i64 x.2.2.2)) ∧ (W2.cell? ⟨W1.heap.size, 0, none⟩ = some (.int .i64 y.1) ∧ W2.cell? ⟨W1.heap.size, 1, none⟩ = some (.int .i64 y.2.1) ∧ W2.cell? ⟨W1.heap.size, 2, none⟩ = some (.int .i64 y.2.2.1) ∧ W2.cell? ⟨W1.heap.size, 3, none⟩ = some (.int .i64 y.2.2.2)))) := ⟨(V1.below b2).four, V2.four⟩
  have HW : Hid (W2 = Sort.grow W #[.cells #[.int .i64 x.1, .int .i64 x.2.1, .int .i64 x.2.2.1, .int .i64 x.2.2.2] 63, .cells #[.int .i64 y.1, .int .i64 y.2.1, .int .i64 y.2.2.1, .int .i64 y.2.2.2] 63]) := by
    unfold Hid
    rw [← hW2, ← hW1, Sort.alloc_eq_grow, Sort.alloc_eq_grow, Sort.grow_grow]
    rfl
  have HS2 : Hid ((((W2.alloc (Obj.cells #[Value.int IntKind.i64 r1, Value.int IntKind.i64 r2, Value.int IntKind.i64 r3] 3)).drew.cell? ⟨W.heap.size, 0, none⟩ = some (.int .i64 x.1) ∧ (W2.alloc (Obj.cells #[Value.int IntKind.i64 r1, Value.int IntKind.i64 r2, Value.int IntKind.i64 r3] 3)).drew.cell? ⟨W.heap.size, 1, none⟩ = some (.int .i64 x.2.1) ∧ (W2.alloc (Obj.cells #[Value.int IntKind.i64 r1, Value.int IntKind.i64 r2, Value.int IntKind.i64 r3] 3)).drew.cell? ⟨W.heap.size, 2, none⟩ = some (.int .i64 x.2.2.1) ∧ (W2.alloc (Obj.cells #[Value.int IntKind.i64 r1, Value.int IntKind.i64 r2, Value.int IntKind.i64 r3] 3)).drew.cell? ⟨W.heap.size, 3, none⟩ = some (.int .i64 x.2.2.2)) ∧ ((W2.alloc (Obj.cells #[Value.int IntKind.i64 r1, Value.int IntKind.i64 r2, Value.int IntKind.i64 r3] 3)).drew.cell? ⟨W1.heap.size, 0, none⟩ = some (.int .i64 y.1) ∧ (W2.alloc (Obj.cells #[Value.int IntKind.i64 r1, Value.int IntKind.i64 r2, Value.int IntKind.i64 r3] 3)).drew.cell? ⟨W1.heap.size, 1, none⟩ = some (.int .i64 y.2.1) ∧ (W2.alloc (Obj.cells #[Value.int IntKind.i64 r1, Value.int IntKind.i64 r2, Value.int IntKind.i64 r3] 3)).drew.cell? ⟨W1.heap.size, 2, none⟩ = some (.int .i64 y.2.2.1) ∧ (W2.alloc (Obj.cells #[Value.int IntKind.i64 r1, Value.int IntKind.i64 r2, Value.int IntKind.i64 r3] 3)).drew.cell? ⟨W1.heap.size, 3, none⟩ = some (.int .i64 y.2.2.2)))) := by
    have ba := (Below.refl W2.heap.size W2).alloc (Nat.le_refl _) (Obj.cells #[Value.int IntKind.i64 r1, Value.int IntKind.i64 r2, Value.int IntKind.i64 r3] 3)
    exact ⟨((V1.below b2).below ba).four, (V2.below ba).four⟩
  clear V1 V2 b1 b2 z1 z2
  go_enter Try.func67, Try.ntmps67
  go_wp2_with fail
  refine wp_region_held_drew (S := (fun w' : World => (w'.cell? ⟨W.heap.size, 0, none⟩ = some (.int .i64 x.1) ∧ w'.cell? ⟨W.heap.size, 1, none⟩ = some (.int .i64 x.2.1) ∧ w'.cell? ⟨W.heap.size, 2, none⟩ = some (.int .i64 x.2.2.1) ∧ w'.cell? ⟨W.heap.size, 3, none⟩ = some (.int .i64 x.2.2.2)) ∧ (w'.cell? ⟨W1.heap.size, 0, none⟩ = some (.int .i64 y.1) ∧ w'.cell? ⟨W1.heap.size, 1, none⟩ = some (.int .i64 y.2.1) ∧ w'.cell? ⟨W1.heap.size, 2, none⟩ = some (.int .i64 y.2.2.1) ∧ w'.cell? ⟨W1.heap.size, 3, none⟩ = some (.int .i64 y.2.2.2)))) (by kernel_rfl) (HS.out) (fun hHeld => ?_)
  refine wpAnyH_takeL (i := 0) (v := ?_) rfl rfl (by kernel_rfl) (by kernel_rfl) (by kernel_rfl) (fun _ _ _ h => h) (Or.inl ⟨by rfl, ?_⟩) (by assumption) ?_
  rotate_left
  · intro w hSw
    try dsimp only at hSw
    go_simp
    all_goals with_reducible rfl
  simp only [List.set_cons_zero, List.set_cons_succ]
  refine wpAnyH_takeL (i := 1) (v := ?_) rfl rfl (by kernel_rfl) (by kernel_rfl) (by kernel_rfl) (fun _ _ _ h => h) (Or.inl ⟨by rfl, ?_⟩) (by assumption) ?_
  rotate_left
  · intro w hSw
    try dsimp only at hSw
    go_simp
    all_goals with_reducible rfl
  simp only [List.set_cons_zero, List.set_cons_succ]
  refine wpAnyH_takeL (i := 2) (v := ?_) rfl rfl (by kernel_rfl) (by kernel_rfl) (by kernel_rfl) (fun _ _ _ h => h) (Or.inl ⟨by rfl, ?_⟩) (by assumption) ?_
  rotate_left
  · intro w hSw
    try dsimp only at hSw
    go_simp
    all_goals with_reducible rfl
  simp only [List.set_cons_zero, List.set_cons_succ]
  refine wpAnyH_takeL (i := 3) (v := ?_) rfl rfl (by kernel_rfl) (by kernel_rfl) (by kernel_rfl) (fun _ _ _ h => h) (Or.inl ⟨by rfl, ?_⟩) (by assumption) ?_
  rotate_left
  · intro w hSw
    try dsimp only at hSw
    go_simp
    all_goals with_reducible rfl
  simp only [List.set_cons_zero, List.set_cons_succ]
  refine wpAnyH_takeL (i := 5) (v := ?_) rfl rfl (by kernel_rfl) (by kernel_rfl) (by kernel_rfl) (fun _ _ _ h => h) (Or.inl ⟨by rfl, ?_⟩) (by assumption) ?_
  rotate_left
  · intro w hSw
    try dsimp only at hSw
    go_simp
    all_goals with_reducible rfl
  simp only [List.set_cons_zero, List.set_cons_succ]
  refine wpAnyH_takeL (i := 6) (v := ?_) rfl rfl (by kernel_rfl) (by kernel_rfl) (by kernel_rfl) (fun _ _ _ h => h) (Or.inl ⟨by rfl, ?_⟩) (by assumption) ?_
  rotate_left
  · intro w hSw
    try dsimp only at hSw
    go_simp
    all_goals with_reducible rfl
  simp only [List.set_cons_zero, List.set_cons_succ]
  refine wpAnyH_takeL (i := 7) (v := ?_) rfl rfl (by kernel_rfl) (by kernel_rfl) (by kernel_rfl) (fun _ _ _ h => h) (Or.inl ⟨by rfl, ?_⟩) (by assumption) ?_
  rotate_left
  · intro w hSw
    try dsimp only at hSw
    go_simp
    all_goals with_reducible rfl
  simp only [List.set_cons_zero, List.set_cons_succ]
  refine wpAnyH_takeL (i := 8) (v := ?_) rfl rfl (by kernel_rfl) (by kernel_rfl) (by kernel_rfl) (fun _ _ _ h => h) (Or.inl ⟨by rfl, ?_⟩) (by assumption) ?_
  rotate_left
  · intro w hSw
    try dsimp only at hSw
    go_simp
    all_goals with_reducible rfl
  simp only [List.set_cons_zero, List.set_cons_succ]
  refine wpAnyH_takeL (i := 10) (v := ?_) rfl rfl (by kernel_rfl) (by kernel_rfl) (by kernel_rfl) (fun _ _ _ h => h) (Or.inl ⟨by rfl, ?_⟩) (by assumption) ?_
  rotate_left
  · intro w hSw
    try dsimp only at hSw
    go_simp
    all_goals with_reducible rfl
  simp only [List.set_cons_zero, List.set_cons_succ]
  refine wpAnyH_takeL (i := 11) (v := ?_) rfl rfl (by kernel_rfl) (by kernel_rfl) (by kernel_rfl) (fun _ _ _ h => h) (Or.inl ⟨by rfl, ?_⟩) (by assumption) ?_
  rotate_left
  · intro w hSw
    try dsimp only at hSw
    go_simp
    all_goals with_reducible rfl
  simp only [List.set_cons_zero, List.set_cons_succ]
  refine wpAnyH_takeL (i := 12) (v := ?_) rfl rfl (by kernel_rfl) (by kernel_rfl) (by kernel_rfl) (fun _ _ _ h => h) (Or.inl ⟨by rfl, ?_⟩) (by assumption) ?_
  rotate_left
  · intro w hSw
    try dsimp only at hSw
    go_simp
    all_goals with_reducible rfl
  simp only [List.set_cons_zero, List.set_cons_succ]
  refine wpAnyH_takeL (i := 13) (v := ?_) rfl rfl (by kernel_rfl) (by kernel_rfl) (by kernel_rfl) (fun _ _ _ h => h) (Or.inl ⟨by rfl, ?_⟩) (by assumption) ?_
  rotate_left
  · intro w hSw
    try dsimp only at hSw
    go_simp
    all_goals with_reducible rfl
  simp only [List.set_cons_zero, List.set_cons_succ]
  refine wpAnyH_ready (rs := [4]) (by kernel_rfl) (by simp) ?_
  refine AllReadyH.cons rfl (fun K hK => ?_) ?_
  · go_simp
    go_at_call 56
    refine Calls.mono (h1.out _) ?_
    rintro e w9 ⟨rfl, rfl⟩
    have S1 := hHeld
    go_simp
    refine hK.out _ _ ?_ (fun hHeld => ?_)
    · try dsimp only
      exact S1
    clear hK K
    refine wpAnyH_ready (rs := [9]) (by kernel_rfl) (by simp) ?_
    refine AllReadyH.cons rfl (fun K hK => ?_) ?_
    · go_simp
      go_at_call 56
      refine Calls.mono (h2.out _) ?_
      rintro e w9 ⟨rfl, rfl⟩
      have S1 := hHeld
      go_simp
      refine hK.out _ _ ?_ (fun hHeld => ?_)
      · try dsimp only
        exact S1
      clear hK K
      refine wpAnyH_ready (rs := [14]) (by kernel_rfl) (by simp) ?_
      refine AllReadyH.cons rfl (fun K hK => ?_) ?_
      · go_simp
        go_at_call 56
        refine Calls.mono (h3.out _) ?_
        rintro e w9 ⟨rfl, rfl⟩
        have S1 := hHeld
        go_simp
        refine hK.out _ _ ?_ (fun hHeld => ?_)
        · try dsimp only
          exact S1
        clear hK K
        refine wpAnyH_ready (rs := [15]) (by kernel_rfl) (by simp) ?_
        refine AllReadyH.cons rfl (fun K hK => ?_) ?_
        · go_simp
          have S1 := HS2.out
          refine hK.out _ _ ?_ (fun hHeld => ?_)
          · try dsimp only
            exact S1
          clear hK K
          refine wpAnyH_ready (rs := [16]) (by kernel_rfl) (by simp) ?_
          refine AllReadyH.cons rfl (fun K hK => ?_) ?_
          · go_simp
            go_at_call 68
            refine Calls.mono (h4.out _ _ ?_) ?_
            · intro j hj
              match j, hj with
              | 0, _ => simp
              | 1, _ => simp
              | 2, _ => simp
            rintro e w9 ⟨rfl, rfl⟩
            have S1 := HS2.out
            go_simp
            refine hK.out _ _ ?_ (fun hHeld => ?_)
            · try dsimp only
              exact S1
            clear hK K
            refine wpAnyH_takeL (i := 17) (v := ?_) rfl rfl (by kernel_rfl) (by kernel_rfl) (by kernel_rfl) (fun _ _ _ h => h) (Or.inl ⟨by rfl, ?_⟩) (by assumption) ?_
            rotate_left
            · intro w hSw
              try dsimp only at hSw
              go_simp
              all_goals with_reducible rfl
            simp only [List.set_cons_zero, List.set_cons_succ]
            refine wpAnyH_done (by kernel_rfl) ?_ _
            go_wp2
            go_ret
            exact ⟨rfl, 1, _, by rw [HW.out, Sort.alloc_eq_grow, Sort.grow_grow]; rfl⟩
          exact AllReadyH.nil
        exact AllReadyH.nil
      exact AllReadyH.nil
    exact AllReadyH.nil
  exact AllReadyH.nil
end Go.Proofs.Ytinlgoljaiolnaa
namespace Go.Proofs.Ytinlgoljaiolnaa
open Go.RowKit
set_option linter.unusedVariables false
theorem flat_at {α : Type} (enc : α → List Value) (k : Nat) (hk : ∀ x, (enc x).length = k) : ∀ (l : List α) (q r : Nat) (hq : q < l.length), r < k → (l.flatMap enc)[q * k + r]? = (enc l[q])[r]?
  | x :: l, 0, r, _, hr => by
    rw [List.flatMap_cons, Nat.zero_mul, Nat.zero_add, List.getElem?_append_left (by rw [hk]; exact hr)]
    rfl
  | x :: l, q + 1, r, hq, hr => by
    rw [List.flatMap_cons, List.getElem?_append_right (by rw [hk, Nat.add_mul]; omega), hk, show (q + 1) * k + r - k = q * k + r from by rw [Nat.add_mul]; omega]
    exact flat_at enc k hk l q r (by simpa using hq) hr
theorem flat_length {α : Type} (enc : α → List Value) (k : Nat) (hk : ∀ x, (enc x).length = k) : ∀ l : List α, (l.flatMap enc).length = l.length * k
  | [] => by simp
  | x :: l => by rw [List.flatMap_cons, List.length_append, hk, flat_length enc k hk l, List.length_cons, Nat.add_mul]; omega
theorem sorted_row {α : Type} [Inhabited α] (enc : α → List Value) (k : Nat) (hk0 : 0 < k) (hk : ∀ x, (enc x).length = k) {w : World} {base g n cap m : Nat} {e : TypeId} {xs : List Value} {d' : Array α} {os : Array Obj}
    (h : w.ownsRow base e k (.slice (some ⟨g, 0, none⟩) n cap) n xs) (hd : d'.size = n) : (sortWorldK enc k w g 0 m d' os).ownsRow base e k (.slice (some ⟨g, 0, none⟩) n cap) n (d'.toList.flatMap enc) := by
  refine ⟨by rw [flat_length enc k hk, Array.length_toList, hd], .inr ?_⟩
  rcases h.2 with ⟨h1, -⟩ | ⟨g', cap', cur, e1, g1, g2, g3, g4, g5, g6⟩
  · cases h1
  · simp only [Value.slice.injEq, Option.some.injEq, Addr.mk.injEq, and_true, true_and] at e1
    obtain ⟨rfl, rfl⟩ := e1
    have hgl := (Array.getElem?_eq_some_iff.1 g2).1
    refine ⟨g, cap, Sort.putCells id 0 (Sort.flatK enc k d') cur, rfl, g1, ?_, g3, g4, by unfold Sort.putCells; rw [Array.size_mapIdx]; exact g5, ?_⟩
    · show (Sort.grow (Sort.mapBlock (Sort.ahead w m) g _) os).heap[g]? = _
      have hsz : (Sort.mapBlock (Sort.ahead w m) g (Sort.putCells id 0 (Sort.flatK enc k d'))).heap.size = w.heap.size := by unfold Sort.mapBlock; rw [Array.size_modify]; rfl
      unfold Sort.grow
      simp only
      rw [Array.getElem?_append_left (by rw [hsz]; exact hgl)]
      unfold Sort.mapBlock
      simp only [Array.getElem?_modify]
      rw [if_pos True.intro]
      show Option.map _ (w.heap[g]?) = _
      rw [g2]
      rfl
    · refine List.ext_getElem? (fun t => ?_)
      by_cases ht : t < n * k
      · have hlt : t / k < d'.toList.length := by rw [Array.length_toList, hd]; exact Nat.div_lt_of_lt_mul (by rw [Nat.mul_comm]; exact ht)
        have hr : t % k < k := Nat.mod_lt _ hk0
        have htk : t / k * k + t % k = t := by rw [Nat.mul_comm]; exact Nat.div_add_mod t k
        have hn : n * k ≤ cap * k := Nat.mul_le_mul_right k g3
        rw [List.getElem?_take, if_pos ht]
        have h1 := flat_at enc k hk d'.toList (t / k) (t % k) hlt hr
        rw [htk] at h1
        rw [h1]
        have hts : t < cur.size := by omega
        have hf := Sort.get_flatK enc k d' t (by rw [hd]; exact ht)
        unfold Sort.putCells
        rw [Array.getElem?_toList, Array.getElem?_mapIdx, Array.getElem?_eq_getElem hts]
        simp only [Option.map_some]
        rw [if_pos ⟨Nat.zero_le _, by rw [Sort.size_flatK, hd]; omega⟩, Nat.sub_zero, hf]
        have hlt' : t / k < d'.size := by simpa using hlt
        rw [getElem!_pos d' _ hlt', getElem!_pos (enc d'[t / k]) (t % k) (by rw [hk]; exact hr)]
        simp only [id_eq, Array.getElem_toList]
        rw [List.getElem?_eq_getElem (by rw [hk]; exact hr)]
      · rw [List.getElem?_take, if_neg ht, List.getElem?_eq_none]
        rw [flat_length enc k hk, Array.length_toList, hd]
        omega
theorem map_block9 {w : World} {g : Nat} {f : Array Value → Array Value} : (Sort.mapBlock w g f).heap.size = w.heap.size ∧ ∀ k, k ≠ g → (Sort.mapBlock w g f).heap[k]? = w.heap[k]? := by
  unfold Sort.mapBlock
  refine ⟨by simp, fun k hk => ?_⟩
  simp only [Array.getElem?_modify]
  rw [if_neg (fun h => hk h.symm)]
theorem sort_world {α : Type} [Inhabited α] {enc : α → List Value} {k : Nat} {w : World} {base g m : Nat} {d' : Array α} {os : Array Obj} (hb : base ≤ g) (hg : g < w.heap.size) : Below base w (sortWorldK enc k w g 0 m d' os) := by
  have hm := map_block9 (w := Sort.ahead w m) (g := g) (f := Sort.putCells id 0 (Sort.flatK enc k d'))
  have hsz : (Sort.putRowK enc k (Sort.ahead w m) g 0 d').heap.size = w.heap.size := hm.1
  refine ⟨rfl, rfl, rfl, ?_, fun j hj => ?_⟩
  · show w.heap.size ≤ (Sort.grow _ os).heap.size
    unfold Sort.grow
    simp only [Array.size_append]
    rw [hsz]
    omega
  · show (Sort.grow _ os).heap[j]? = _
    unfold Sort.grow
    simp only
    by_cases hjl : j < w.heap.size
    · rw [Array.getElem?_append_left (by rw [hsz]; exact hjl)]
      exact hm.2 j (by omega)
    · exact absurd hj (by omega)
theorem cmp3_neg (a b : Int) : cmp3 a b < 0 ↔ a < b := by unfold cmp3; split <;> (try split) <;> omega
theorem cmp3_zero (a b : Int) : cmp3 a b = 0 ↔ a = b := by unfold cmp3; split <;> (try split) <;> omega
theorem cmpR_lt (x y : Rfr) : ltOf cmpR x y = decide (Rf.Lt x y) := by
  unfold ltOf
  congr 1
  refine propext ?_
  have e1 := cmp3_neg x.1 y.1
  have e2 := cmp3_zero x.1 y.1
  have e3 := cmp3_neg x.2.2.1 y.2.2.1
  have e4 := cmp3_zero x.2.2.1 y.2.2.1
  have e5 := cmp3_neg x.2.2.2 y.2.2.2
  show (if cmp3 x.1 y.1 = 0 then (if cmp3 x.2.2.1 y.2.2.1 = 0 then (if cmp3 x.2.2.2 y.2.2.2 = 0 then 0 else cmp3 x.2.2.2 y.2.2.2) else cmp3 x.2.2.1 y.2.2.1) else cmp3 x.1 y.1) < 0 ↔ _
  unfold Rf.Lt
  split
  · split
    · split <;> omega
    · omega
  · omega
theorem cmpE_lt (x y : Spn) : ltOf cmpE x y = decide (x.1 < y.1) := by
  unfold ltOf
  congr 1
  exact propext (cmp3_neg x.1 y.1)
theorem swoR : Sort.SWO (ltOf cmpR) :=
  ⟨fun x => by rw [cmpR_lt]; simp, fun x y z h1 h2 => by rw [cmpR_lt] at *; simp only [decide_eq_true_eq] at *; exact h1.trans h2, fun x y z h1 h2 => by rw [cmpR_lt] at *; simp only [decide_eq_false_iff_not] at *; unfold Rf.Lt at *; omega⟩
theorem swoE : Sort.SWO (ltOf cmpE) :=
  ⟨fun x => by rw [cmpE_lt]; simp, fun x y z h1 h2 => by rw [cmpE_lt] at *; simp at *; omega, fun x y z h1 h2 => by rw [cmpE_lt] at *; simp at *; omega⟩
set_option maxHeartbeats 1000000 in
theorem sortR_u (w : World) (base : Nat) (a : Option Addr) (n c : Nat) (l : List Rfr) (hO : OwnR 63 w base (.slice a n c) l) (hn : l.length ≤ 1000000) :
    Calls Try.prog 66 #[.slice a n c, .func (.func 67) #[] #[]] w fun e w' => e = .returned (.tuple #[]) ∧ ∃ D : List Rfr, D.Perm l ∧ Rf.Up D ∧ OwnR 63 w' base (.slice a n c) D ∧ Below base w w' := by
  by_cases h0 : l.length = 0
  · obtain rfl : l = [] := List.length_eq_zero_iff.1 h0
    obtain ⟨a', c', e, -, -⟩ := hO.slice
    simp only [Value.slice.injEq] at e
    obtain ⟨rfl, rfl, rfl⟩ := e
    refine (show Calls Try.prog 66 _ _ _ from AnyF.slices_SortFunc_none sortRfr a c (.func (.func 67) #[] #[]) w).mono ?_
    rintro e w' ⟨rfl, rfl⟩
    exact ⟨rfl, [], List.Perm.refl _, List.Pairwise.nil, hO, Below.refl _ _⟩
  · obtain ⟨g, rfl, hgb, hgl, hnl, hat⟩ := hO.at (by omega)
    subst hnl
    have hH : Sort.HoldsK rfr4 4 w g 0 l.toArray := by
      intro j hj
      rw [Sort.size_flatK] at hj
      have hj' : j < l.toArray.size * 4 := hj
      have hq : j / 4 < l.length := by simp at hj'; omega
      rw [Sort.get_flatK _ _ _ _ hj', Nat.zero_add]
      obtain ⟨c0, c1, c2, c3, hf⟩ := hat (j / 4) hq
      have hx : l.toArray[j / 4]! = l[j / 4] := by rw [getElem!_pos _ _ (by simpa using hq)]; simp
      rw [hx]
      have hm : j = j / 4 * 4 + j % 4 := by omega
      have h3 : j % 4 < 4 := Nat.mod_lt _ (by decide)
      refine ⟨?_, hf j⟩
      generalize j % 4 = r at *
      generalize j / 4 = q at *
      subst hm
      match r, h3 with
      | 0, _ => exact c0
      | 1, _ => exact c1
      | 2, _ => exact c2
      | 3, _ => exact c3
    have hcon := AnyQ.slices_SortFunc sortRfr 4 Try.isAgg63 Try.sizeOf63 rfr4 (fun _ => rfl) (fun x v hv => by simp [rfr4] at hv; rcases hv with rfl | rfl | rfl | rfl <;> rfl) cmpR swoR 67 #[] g 0 c l.toArray w (enters_of Try.func67 (by kernel_rfl) rfl) (fun _ _ _ _ x y => cmpR_u x y _) hH hgl (by simp; omega)
    have hcon' : Calls Try.prog 66 #[.slice (some ⟨g, 0, none⟩) l.toArray.size c, .func (.func 67) #[] #[]] w _ := hcon
    rw [show l.toArray.size = l.length by simp] at hcon'
    refine hcon'.mono ?_
    rintro e w' ⟨rfl, d', m, os, ⟨hp1, -, hp3⟩, hs, rfl⟩
    have hds : d'.size = l.length := by rw [hp1]; simp
    have hperm : d'.toList.Perm l := by
      have h := hp3
      simp only [Array.toList_extract, List.extract_eq_take_drop, List.drop_zero, Nat.sub_zero] at h
      rw [List.take_of_length_le (by simp [hds]), List.take_of_length_le (Nat.le_refl _)] at h
      exact h
    refine ⟨rfl, d'.toList, hperm, ?_, ⟨?_, fun x hx => hO.fit x (hperm.mem_iff.1 hx)⟩, sort_world hgb hgl⟩
    · refine List.pairwise_iff_getElem.2 (fun i j hi hj hij => ?_)
      have h := hs i j (Nat.zero_le _) hij (by simp at hj ⊢; omega)
      rw [cmpR_lt] at h
      have h := of_decide_eq_false h
      simp only [Array.length_toList] at hi hj
      rw [getElem!_pos d' j hj, getElem!_pos d' i hi] at h
      simp only [Array.getElem_toList]
      exact h
    · have h := sorted_row (d' := d') (m := m) (os := os) rfr4 4 (by decide) (fun _ => rfl) hO.row hds
      have e : d'.toList.length = l.length := by simp [hds]
      rw [e]
      exact h
set_option maxHeartbeats 1000000 in
theorem sortE_u (w : World) (base : Nat) (a : Option Addr) (n c : Nat) (l : List Spn) (hO : OwnS 108 w base (.slice a n c) l) (hn : l.length ≤ 1000000) :
    Calls Try.prog 54 #[.slice a n c, .func (.func 55) #[] #[]] w fun e w' => e = .returned (.tuple #[]) ∧ ∃ D : List Spn, D.Perm l ∧ Rf.UpE D ∧ OwnS 108 w' base (.slice a n c) D ∧ Below base w w' := by
  by_cases h0 : l.length = 0
  · obtain rfl : l = [] := List.length_eq_zero_iff.1 h0
    obtain ⟨a', c', e, -, -⟩ := hO.slice
    simp only [Value.slice.injEq] at e
    obtain ⟨rfl, rfl, rfl⟩ := e
    refine (show Calls Try.prog 54 _ _ _ from AnyF.slices_SortFunc_none sortEdg a c (.func (.func 55) #[] #[]) w).mono ?_
    rintro e w' ⟨rfl, rfl⟩
    exact ⟨rfl, [], List.Perm.refl _, List.Pairwise.nil, hO, Below.refl _ _⟩
  · obtain ⟨g, rfl, hgb, hgl, hnl, hat⟩ := hO.at (by omega)
    subst hnl
    have hH : Sort.HoldsK spn2 2 w g 0 l.toArray := by
      intro j hj
      rw [Sort.size_flatK] at hj
      have hj' : j < l.toArray.size * 2 := hj
      have hq : j / 2 < l.length := by simp at hj'; omega
      rw [Sort.get_flatK _ _ _ _ hj', Nat.zero_add]
      obtain ⟨c0, c1, hf⟩ := hat (j / 2) hq
      have hx : l.toArray[j / 2]! = l[j / 2] := by rw [getElem!_pos _ _ (by simpa using hq)]; simp
      rw [hx]
      have hm : j = j / 2 * 2 + j % 2 := by omega
      have h3 : j % 2 < 2 := Nat.mod_lt _ (by decide)
      refine ⟨?_, hf j⟩
      generalize j % 2 = r at *
      generalize j / 2 = q at *
      subst hm
      match r, h3 with
      | 0, _ => exact c0
      | 1, _ => exact c1
    have hcon := AnyQ.slices_SortFunc sortEdg 2 Try.isAgg108 Try.sizeOf108 spn2 (fun _ => rfl) (fun x v hv => by simp [spn2] at hv; rcases hv with rfl | rfl <;> rfl) cmpE swoE 55 #[] g 0 c l.toArray w (enters_of Try.func55 (by kernel_rfl) rfl) (fun _ _ _ _ x y => cmpE_u x y _) hH hgl (by simp; omega)
    have hcon' : Calls Try.prog 54 #[.slice (some ⟨g, 0, none⟩) l.toArray.size c, .func (.func 55) #[] #[]] w _ := hcon
    rw [show l.toArray.size = l.length by simp] at hcon'
    refine hcon'.mono ?_
    rintro e w' ⟨rfl, d', m, os, ⟨hp1, -, hp3⟩, hs, rfl⟩
    have hds : d'.size = l.length := by rw [hp1]; simp
    have hperm : d'.toList.Perm l := by
      have h := hp3
      simp only [Array.toList_extract, List.extract_eq_take_drop, List.drop_zero, Nat.sub_zero] at h
      rw [List.take_of_length_le (by simp [hds]), List.take_of_length_le (Nat.le_refl _)] at h
      exact h
    refine ⟨rfl, d'.toList, hperm, ?_, ⟨?_, fun x hx => hO.fit x (hperm.mem_iff.1 hx)⟩, sort_world hgb hgl⟩
    · refine List.pairwise_iff_getElem.2 (fun i j hi hj hij => ?_)
      have h := hs i j (Nat.zero_le _) hij (by simp at hj ⊢; omega)
      rw [cmpE_lt] at h
      have h := of_decide_eq_false h
      simp only [Array.length_toList] at hi hj
      rw [getElem!_pos d' j hj, getElem!_pos d' i hi] at h
      simp only [Array.getElem_toList]
      omega
    · have h := sorted_row (d' := d') (m := m) (os := os) spn2 2 (by decide) (fun _ => rfl) hO.row hds
      have e : d'.toList.length = l.length := by simp [hds]
      rw [e]
      exact h
end Go.Proofs.Ytinlgoljaiolnaa
namespace Go.Proofs.Ytinlgoljaiolnaa
set_option linter.unusedVariables false
namespace Rf
def maysM (prev : Int) : List Mpr → Bool
  | [] => true
  | o :: m => decide (0 ≤ o.1 ∧ o.1 ≤ 255 ∧ prev < o.1 ∧ Ex.checkE o.2 = 0) && maysM o.1 m
def checkM (m : List Mpr) : Int := if m.length ≤ 9 ∧ maysM (-1) m = true then 0 else 9
theorem checkM_zero {m : List Mpr} : checkM m = 0 ↔ m.length ≤ 9 ∧ maysM (-1) m = true := by
  unfold checkM
  split
  · rename_i h; exact ⟨fun _ => h, fun _ => rfl⟩
  · rename_i h; exact ⟨fun k => by simp at k, fun k => absurd k h⟩
theorem checkM_nine {m : List Mpr} (h : ¬ (m.length ≤ 9 ∧ maysM (-1) m = true)) : checkM m = 9 := if_neg h
theorem mays_all : ∀ {m : List Mpr} {p : Int}, maysM p m = true → (∀ o ∈ m, p < o.1 ∧ 0 ≤ o.1 ∧ o.1 ≤ 255 ∧ Ex.Ok o.2) ∧ m.Pairwise fun a b => a.1 < b.1
  | [], p, _ => ⟨(fun o ho => by cases ho), List.Pairwise.nil⟩
  | o :: m, p, h => by
    unfold maysM at h
    simp only [Bool.and_eq_true, decide_eq_true_eq] at h
    obtain ⟨⟨h1, h2, h3, h4⟩, h5⟩ := h
    obtain ⟨k1, k2⟩ := mays_all h5
    refine ⟨fun x hx => ?_, List.pairwise_cons.2 ⟨fun x hx => (k1 x hx).1, k2⟩⟩
    rcases List.mem_cons.1 hx with rfl | hx
    · exact ⟨h3, h1, h2, Ex.checkE_zero.1 h4⟩
    · obtain ⟨j1, j2⟩ := k1 x hx
      exact ⟨by omega, j2⟩
theorem chain_pair : ∀ {l : List Ext}, (∀ x ∈ l, Ex.One x) → Ex.Chain l → l.Pairwise fun a b => a.1 + a.2.2 ≤ b.1
  | [], _, _ => List.Pairwise.nil
  | [x], _, _ => List.pairwise_singleton _ _
  | x :: y :: l, h, hc => by
    have ih := chain_pair (l := y :: l) (fun z hz => h z (List.mem_cons_of_mem _ hz)) hc.2
    refine List.pairwise_cons.2 ⟨fun z hz => ?_, ih⟩
    have h1 := hc.1.1
    rcases List.mem_cons.1 hz with rfl | hz
    · exact h1
    · have h2 := (List.pairwise_cons.1 ih).1 z hz
      have h3 := (h y (by simp)).1
      omega
theorem okM {m : List Mpr} (h : checkM m = 0) : OkM m := by
  obtain ⟨k1, k2⟩ := mays_all (checkM_zero.1 h).2
  exact ⟨k2, fun o ho => chain_pair (k1 o ho).2.2.2.2.1 (k1 o ho).2.2.2.2.2⟩
def Low (r : Rfr) : Prop := 0 ≤ r.1 ∧ 1 ≤ r.2.1 ∧ r.1 + r.2.1 ≤ 65536 ∧ 0 ≤ r.2.2.1 ∧ r.2.2.1 ≤ 255 ∧ 0 ≤ r.2.2.2 ∧ r.2.2.2 + r.2.1 ≤ 65536
theorem all_low {m : List Mpr} (h : checkM m = 0) : ∀ r ∈ allR m, Low r := by
  intro r hr
  unfold allR at hr
  obtain ⟨o, ho, hr⟩ := List.mem_flatMap.1 hr
  obtain ⟨e, he, rfl⟩ := List.mem_map.1 hr
  obtain ⟨k1, k2, k3, k4⟩ := (mays_all (checkM_zero.1 h).2).1 o ho
  have h1 := k4.2.1 e he
  unfold Ex.One Ex.Fits at h1
  unfold Low
  simp only
  omega
theorem cut_low {x : Spn} {r r' : Rfr} (hr : Low r) (h : cutR x r = some r') : Low r' := by
  unfold cutR at h
  unfold Low at *
  split at h
  · cases h
    simp only
    omega
  · cases h
theorem who_low {x : Spn} {m : List Mpr} (h : checkM m = 0) : ∀ r ∈ whoR x m, Low r := by
  intro r hr
  have h1 := (sort_perm _).mem_iff.1 hr
  unfold cutA at h1
  obtain ⟨r0, h2, h3⟩ := List.mem_filterMap.1 h1
  exact cut_low (all_low h r0 h2) h3
theorem flat_le {m : List Mpr} {k : Nat} (h : ∀ o ∈ m, o.2.length ≤ k) : (allR m).length ≤ m.length * k := by
  induction m with
  | nil => simp [allR]
  | cons o m ih =>
    have e : allR (o :: m) = (o.2.map fun e => (e.2.1, e.2.2, o.1, e.1)) ++ allR m := rfl
    rw [e, List.length_append, List.length_map, List.length_cons, Nat.add_mul]
    have h1 := h o (by simp)
    have h2 := ih (fun x hx => h x (by simp [hx]))
    omega
theorem all_few {m : List Mpr} (h : checkM m = 0) : (allR m).length ≤ 9216 := by
  have h1 := flat_le (m := m) (k := 1024) (fun o ho => ((mays_all (checkM_zero.1 h).2).1 o ho).2.2.2.1)
  have h2 := (checkM_zero.1 h).1
  omega
theorem who_few {x : Spn} {m : List Mpr} (h : checkM m = 0) : (whoR x m).length ≤ 9216 := by
  have h1 := (sort_perm (cutA x (allR m))).length_eq
  have h2 := all_few h
  have h3 : (cutA x (allR m)).length ≤ (allR m).length := List.length_filterMap_le _ _
  unfold whoR
  omega
def ofExt (o : Int) (e : Ext) : Rfr := (e.2.1, e.2.2, o, e.1)
theorem all_take {m : List Mpr} {q : Nat} (hq : q < m.length) : allR (m.take (q + 1)) = allR (m.take q) ++ m[q].2.map (ofExt m[q].1) := by
  rw [List.take_succ_eq_append_getElem hq]
  unfold allR
  rw [List.flatMap_append]
  simp only [List.flatMap_cons, List.flatMap_nil, List.append_nil]
  rfl
theorem cutA_append (x : Spn) (l m : List Rfr) : cutA x (l ++ m) = cutA x l ++ cutA x m := by unfold cutA; rw [List.filterMap_append]
theorem cutA_next {x : Spn} {A : List Rfr} {l : List Ext} {o : Int} {k : Nat} (hk : k < l.length) : cutA x (A ++ (l.take (k + 1)).map (ofExt o)) = cutA x (A ++ (l.take k).map (ofExt o)) ++ (cutR x (ofExt o l[k])).toList := by
  rw [List.take_succ_eq_append_getElem hk, List.map_append, ← List.append_assoc, cutA_append x (A ++ _)]
  congr 1
theorem cut_end {x : Spn} {r : Rfr} {en : Int} (he : en = x.1 + min x.2 (65536 - x.1)) (hr : r.1 + r.2.1 ≤ 65536) : min (r.1 + r.2.1) (x.1 + x.2) = min (r.1 + r.2.1) en := by omega
end Rf
end Go.Proofs.Ytinlgoljaiolnaa
namespace Go.Proofs.Ytinlgoljaiolnaa
open Go.RowKit
set_option linter.unusedVariables false
theorem Rf.edges_mem {l : List Rfr} (h : ∀ x ∈ l, Rf.Low x) : ∀ e ∈ Rf.edges l, 0 ≤ e.1 ∧ e.1 ≤ 65536 ∧ -1 ≤ e.2 ∧ e.2 ≤ 1 := by
  intro e he
  unfold Rf.edges at he
  obtain ⟨x, hx, hex⟩ := List.mem_flatMap.1 he
  have hl := h x hx
  unfold Rf.Low at hl
  simp only [List.mem_cons, List.not_mem_nil, or_false] at hex
  rcases hex with rfl | rfl <;> simp only <;> omega
theorem Rf.edges_len (l : List Rfr) : (Rf.edges l).length = 2 * l.length := by
  unfold Rf.edges
  induction l with
  | nil => rfl
  | cons x l ih => rw [List.flatMap_cons, List.length_append, ih]; simp; omega
theorem Rf.edges_take {l : List Rfr} {q : Nat} (hq : q < l.length) : Rf.edges (l.take (q + 1)) = Rf.edges (l.take q) ++ [(l[q].1, 1), (l[q].1 + l[q].2.1, -1)] := by
  rw [List.take_succ_eq_append_getElem hq]
  unfold Rf.edges
  rw [List.flatMap_append]
  rfl
theorem edg2_new (w : World) (x y : Spn) (t : TypeId) : ∀ j u, (spnCells [x, y])[j]? = some u → (w.alloc (.cells #[.int .i64 x.1, .int .i64 x.2, .int .i64 y.1, .int .i64 y.2] t)).cell? ((⟨w.heap.size, 0, none⟩ : Addr).add j) = some u := by
  intro j u hj
  rw [Addr.add_lit, Nat.zero_add]
  have hj' : ([.int .i64 x.1, .int .i64 x.2, .int .i64 y.1, .int .i64 y.2] : List Value)[j]? = some u := hj
  match j, hj' with
  | 0, hj => simp at hj; subst hj; simp
  | 1, hj => simp at hj; subst hj; simp
  | 2, hj => simp at hj; subst hj; simp
  | 3, hj => simp at hj; subst hj; simp
structure Rf.Swept (E : List Edg) (w3 wr : World) (k : Nat) (v : Value) (a n : Int) (out : List Cnr) : Prop where
  inn : Rf.LayIn wr (w3.heap.size + 2) (w3.heap.size + 1) w3.heap.size (w3.heap.size + 3) n a v out
  eq : Rf.sweep E [] 0 0 = Rf.sweep (E.drop k) out a n
  sm : ∀ y ∈ out, Rf.Sm y
  len : out.length ≤ k
  a0 : 0 ≤ a
  a1 : a ≤ 65536
  n0 : -(k : Int) ≤ n
  n1 : n ≤ k
  rest : ∀ e ∈ E.drop k, a ≤ e.1
  low : Below w3.heap.size w3 wr
theorem Rf.Swept.next {E : List Edg} {w3 wr w6 w7 : World} {k : Nat} {v v' : Value} {a n : Int} {out : List Cnr} (h : Rf.Swept E w3 wr k v a n out) (hk : k < E.length) (hE : ∀ e ∈ E, 0 ≤ e.1 ∧ e.1 ≤ 65536 ∧ -1 ≤ e.2 ∧ e.2 ≤ 1) (hU : Rf.UpE E) (hl : E.length ≤ 100000)
    (b6 : Below wr.heap.size wr w6) (D : Rf.LayDone w6 w7 w3.heap.size (w3.heap.size + 3) v v' (Rf.lay out a n E[k].1)) :
    Rf.Swept E w3 ((w7.setCell ⟨w3.heap.size + 1, 0, none⟩ (.int .i64 E[k].1)).setCell ⟨w3.heap.size + 2, 0, none⟩ (.int .i64 (n + E[k].2))) (k + 1) v' E[k].1 (n + E[k].2) (Rf.lay out a n E[k].1) := by
  obtain ⟨e0, e1, e2, e3⟩ := hE E[k] (List.getElem_mem hk)
  have hz := h.inn.base
  have hz6 := b6.size
  have hz7 := D.size
  have nob : ∀ j, j < w3.heap.size + 3 → v.ownBlock ≠ some j := fun j hj e => by have := (h.inn.own.row.lt j e).1; omega
  have keep : ∀ j, j < w3.heap.size + 3 → j ≠ w3.heap.size → w7.heap[j]? = wr.heap[j]? := fun j hj hne => (D.block j (by omega) hne (nob j hj)).trans (b6.block j (by omega))
  have r1 : Row w7 (w3.heap.size + 1) 3 [.int .i64 a] := h.inn.ha.keep (keep _ (by omega) (by omega))
  have r2 : Row w7 (w3.heap.size + 2) 3 [.int .i64 n] := h.inn.hn.keep (keep _ (by omega) (by omega))
  have s1 : Row (w7.setCell ⟨w3.heap.size + 1, 0, none⟩ (.int .i64 E[k].1)) (w3.heap.size + 1) 3 [.int .i64 E[k].1] := r1.set 0 _
  have s2 : Row (w7.setCell ⟨w3.heap.size + 1, 0, none⟩ (.int .i64 E[k].1)) (w3.heap.size + 2) 3 [.int .i64 n] := r2.keep (Below.heap_setCell _ _ _ _ (by show w3.heap.size + 2 ≠ w3.heap.size + 1; omega))
  have hdrop : E.drop k = E[k] :: E.drop (k + 1) := List.drop_eq_getElem_cons hk
  refine ⟨⟨s2.set 0 _, s1.keep (Below.heap_setCell _ _ _ _ (by show w3.heap.size + 1 ≠ w3.heap.size + 2; omega)), ?_, ?_, ⟨by omega, by omega, by omega⟩, ⟨by omega, by omega⟩, ?_⟩, ?_, Rf.lay_sm h.sm h.a0 (h.rest E[k] (by rw [hdrop]; exact List.mem_cons_self)) e1 (by have := h.n0; omega) (by have := h.n1; omega), ?_, e0, e1, by have := h.n0; omega, by have := h.n1; omega, fun e he => ?_, ?_⟩
  · exact (D.out.keep (Below.heap_setCell _ _ _ _ (by show w3.heap.size ≠ w3.heap.size + 1; omega))).keep (Below.heap_setCell _ _ _ _ (by show w3.heap.size ≠ w3.heap.size + 2; omega))
  · exact (D.own.keep (fun b hb _ => Below.heap_setCell _ _ _ _ (by show b ≠ w3.heap.size + 1; omega))).keep (fun b hb _ => Below.heap_setCell _ _ _ _ (by show b ≠ w3.heap.size + 2; omega))
  · simp; omega
  · rw [h.eq, hdrop]; rfl
  · have := Rf.lay_len out a n E[k].1
    have := h.len
    omega
  · have hp : (E[k] :: E.drop (k + 1)).Pairwise fun a b => a.1 ≤ b.1 := by rw [← hdrop]; exact hU.sublist (List.drop_sublist _ _)
    exact (List.pairwise_cons.1 hp).1 e he
  · refine (Below.setCell (Below.setCell ?_ (by show w3.heap.size ≤ w3.heap.size + 1; omega) _) (by show w3.heap.size ≤ w3.heap.size + 2; omega) _)
    exact ⟨D.os.trans (b6.os.trans h.low.os), D.tape.trans (b6.tape.trans h.low.tape), D.output.trans (b6.output.trans h.low.output), by have := h.low.size; omega, fun j hj => (keep j (by omega) (by omega)).trans (h.low.block j hj)⟩
theorem Rf.Swept.start {E : List Edg} {w3 : World} (hE : ∀ e ∈ E, 0 ≤ e.1 ∧ e.1 ≤ 65536 ∧ -1 ≤ e.2 ∧ e.2 ≤ 1) :
    Rf.Swept E w3 (((w3.alloc (Obj.cells #[Value.slice none 0 0] 34)).alloc (Obj.cells #[Value.int IntKind.i64 0] 3)).alloc (Obj.cells #[Value.int IntKind.i64 0] 3)) 0 (.slice none 0 0) 0 0 [] := by
  obtain ⟨wA, hA, VA, bA, zA⟩ := boxedRow w3 34 [Value.slice none 0 0]
  obtain ⟨wB, hB, VB, bB, zB⟩ := boxedRow wA 3 [Value.int IntKind.i64 0]
  obtain ⟨wC, hC, VC, bC, zC⟩ := boxedRow wB 3 [Value.int IntKind.i64 0]
  have e : ((w3.alloc (Obj.cells #[Value.slice none 0 0] 34)).alloc (Obj.cells #[Value.int IntKind.i64 0] 3)).alloc (Obj.cells #[Value.int IntKind.i64 0] 3) = wC := by
    rw [← hC, ← hB, ← hA]
  rw [e]
  have hbC := on (on bA bB) bC
  rw [zA] at VB
  rw [zB, zA] at VC
  exact ⟨⟨VC, VB.below bC, (VA.below bB).below bC, OwnE.nil _ _ _, ⟨by omega, by omega, by omega⟩, ⟨by omega, by omega⟩, by omega⟩, by rw [List.drop_zero], (fun y hy => by cases hy), Nat.le_refl _, Int.le_refl _, by decide, by decide, by decide, fun e he => (hE e (by simpa using he)).1, hbC⟩
set_option maxRecDepth 20000 in
set_option maxHeartbeats 8000000 in
theorem counted_u (w : World) (P : Nat → Prop) (a : Option Addr) (n c : Nat) (l : List Rfr) (hL : rRfrs.rd w P [.slice a n c] l) (hlow : ∀ x ∈ l, Rf.Low x) (hfew : l.length ≤ 9216) :
    Calls Try.prog 34 #[.slice a n c] w fun e w' => ∃ b, e = .returned b ∧ OwnE 56 w' w.heap.size b (Rf.countsD l) ∧ Below w.heap.size w w' := by
  obtain ⟨hl, hnc, hnil, hb⟩ := rList_len hL
  have HL : Hid (l.length = n) := hl
  have HR : Hid (rRfrs.rd w P [.slice a n c] l) := hL
  have HLow : Hid (∀ x ∈ l, Rf.Low x) := hlow
  have hn : n ≤ 9216 := by omega
  clear hl hnc hnil hb hL hlow hfew
  go_enter Try.func34, Try.ntmps34
  go_wp2
  go_loopw [3, 14] (fun o i wr => ∃ q : Nat, q ≤ n ∧ i = .int .i64 q ∧ Hid (OwnS 108 wr w.heap.size o (Rf.edges (l.take q))) ∧ Below w.heap.size w wr) (fun _ i _ => n - (intOf i).toNat)
  case atStart => exact ⟨0, Nat.zero_le _, rfl, OwnS.nil _ _ _, Below.refl _ _⟩
  case round =>
    obtain ⟨q, hq, rfl, HO, bel⟩ := hrel
    by_cases hqn : q < n
    · have hql : q < l.length := by rw [HL.out]; exact hqn
      obtain ⟨g, off, rfl, -, hgl, hat⟩ := rRfrs_at (Rep.below HR.out bel) (by omega)
      obtain ⟨y0, y1, y2, y3, -⟩ := hat q hql
      have hY := HLow.out l[q] (List.getElem_mem hql)
      have HNx : Hid _ := Rf.edges_take hql
      have hel : (Rf.edges (l.take q)).length ≤ 20000 := by rw [Rf.edges_len, List.length_take]; omega
      generalize hYY : l[q] = Y at *
      clear hYY hat
      unfold Rf.Low at hY
      obtain ⟨t1, t2, t3, t4, t5, t6, t7⟩ := hY
      obtain ⟨w6, hw6, V6, b6, z6⟩ := boxedRow wr 63 [.int .i64 Y.1, .int .i64 Y.2.1, .int .i64 Y.2.2.1, .int .i64 Y.2.2.2]
      obtain ⟨p0, p1, p2, p3⟩ : w6.cell? ⟨wr.heap.size, 0, none⟩ = some (.int .i64 Y.1) ∧ w6.cell? ⟨wr.heap.size, 1, none⟩ = some (.int .i64 Y.2.1) ∧ w6.cell? ⟨wr.heap.size, 2, none⟩ = some (.int .i64 Y.2.2.1) ∧ w6.cell? ⟨wr.heap.size, 3, none⟩ = some (.int .i64 Y.2.2.2) := V6.four
      have hqz : (q : Int) < (n : Int) := by omega
      have ba : Below w6.heap.size w6 (w6.alloc (.cells #[.int .i64 Y.1, .int .i64 1, .int .i64 (Y.1 + Y.2.1), .int .i64 (-1)] 108)) := (Below.refl _ _).alloc (Nat.le_refl _) _
      have hbw : Below w.heap.size w w6 := on bel b6
      have hoa := (HO.out.below b6).below ba
      have hsz : w.heap.size ≤ (w6.alloc (.cells #[.int .i64 Y.1, .int .i64 1, .int .i64 (Y.1 + Y.2.1), .int .i64 (-1)] 108)).heap.size := Nat.le_trans hbw.size ba.size
      obtain ⟨v', w8, hr1, ho1, g1⟩ := run_append_edg2 hoa (c := 2) (edg2_new w6 (Y.1, 1) (Y.1 + Y.2.1, -1) 108) (by unfold In2 In64; simp only; omega) (by unfold In2 In64; simp only; omega) (by omega) hsz 106
      have HR8 : Hid _ := hr1
      have HO8 : Hid (OwnS 108 w8 w.heap.size v' (Rf.edges (l.take (q + 1)))) := by unfold Hid; rw [HNx.out]; exact ho1
      have HB8 : Hid (Below w.heap.size w w8) := (hbw.alloc hbw.size _).trans (hoa.base_below hsz g1)
      clear hr1 ho1 g1 hoa hsz ba hbw b6 V6 z6 HO bel
      go_wp2_with (at_builtin; refine Lib.wpList_append_run _ rfl _ _ _ _ rfl _ _ rfl rfl _ _ HR8.out ?_)
      go_roundw
      case rel => exact ⟨q + 1, by omega, by go_num, HO8, HB8.out⟩
      case measure => simp [intOf]; omega
    · obtain rfl : q = n := by omega
      have HOa : Hid (OwnS 108 wr w.heap.size u3 (Rf.edges l)) := by
        have h := HO.out
        rw [List.take_of_length_le (by rw [HL.out]; exact Nat.le_refl _)] at h
        exact h
      obtain ⟨ao, co, hvo, -, -⟩ := HOa.out.slice
      subst hvo
      have HEl : Hid ((Rf.edges l).length ≤ 20000) := by unfold Hid; rw [Rf.edges_len, HL.out]; omega
      generalize hgl : (Rf.edges l).length = ln at *
      have HGl : Hid ((Rf.edges l).length = ln) := hgl
      have hln := HEl.out
      have BW : Hid (Below w.heap.size w wr) := bel
      clear hgl HO bel
      go_wp2_with fail
      refine (sortE_u _ _ _ _ _ _ HOa.out (by rw [HGl.out]; omega)).mono ?_
      rintro e w3 ⟨rfl, E, hperm, hup, ho3, b3⟩
      have HE : Hid (Rf.sweep E [] 0 0 = Rf.countsD l) := Rf.counts_one (fun x hx => by have := HLow.out x hx; unfold Rf.Low at this; omega) hperm hup
      have HEm : Hid (∀ e ∈ E, 0 ≤ e.1 ∧ e.1 ≤ 65536 ∧ -1 ≤ e.2 ∧ e.2 ≤ 1) := fun e he => Rf.edges_mem HLow.out e (hperm.mem_iff.1 he)
      have HU : Hid (Rf.UpE E) := hup
      have HEn : Hid (E.length = ln) := by unfold Hid; rw [← HGl.out]; exact hperm.length_eq
      have HRd : Hid (rSpns.rd w3 (fun b => b < w3.heap.size) [.slice ao ln co] E) := rSpns.weaken (ho3.rd (by rw [hperm.length_eq, HGl.out]; omega)) (fun b _ h => h)
      have B3 : Hid (Below w.heap.size w w3) := BW.out.trans b3
      have HS0 : Hid (Rf.Swept E w3 (((w3.alloc (Obj.cells #[Value.slice none 0 0] 34)).alloc (Obj.cells #[Value.int IntKind.i64 0] 3)).alloc (Obj.cells #[Value.int IntKind.i64 0] 3)) 0 (.slice none 0 0) 0 0 []) := Rf.Swept.start HEm.out
      clear hperm hup ho3 b3
      go_wp2
      go_loopw [36] (fun i wr => ∃ k : Nat, k ≤ ln ∧ i = .int .i64 k ∧ Hid (∃ v a n out, Rf.Swept E w3 wr k v a n out)) (fun i _ => ln - (intOf i).toNat)
      case atStart => exact ⟨0, Nat.zero_le _, rfl, ⟨_, _, _, _, HS0.out⟩⟩
      case round =>
        obtain ⟨k, hk, rfl, HK⟩ := hrel
        obtain ⟨v, aa, nn, out, S⟩ := HK.out
        have HSw : Hid (Rf.Swept E w3 wr k v aa nn out) := S
        by_cases hkn : k < ln
        · have hkE : k < E.length := by rw [HEn.out]; exact hkn
          obtain ⟨g, off, rfl, -, hgl, hat⟩ := rSpns_at (rSpns.keep HRd.out (fun b hb _ => S.low.block b hb)) (by omega)
          obtain ⟨y0, y1, -⟩ := hat k hkE
          obtain ⟨x1, x2, x3, x4⟩ := HEm.out E[k] (List.getElem_mem hkE)
          have HNx : Hid (∀ {w6 w7 : World} {v' : Value}, Below wr.heap.size wr w6 → Rf.LayDone w6 w7 w3.heap.size (w3.heap.size + 3) v v' (Rf.lay out aa nn E[k].1) → _) := fun {w6 w7 v'} b D => S.next hkE HEm.out HU.out (by rw [HEn.out]; omega) b D
          have hrest : aa ≤ E[k].1 := S.rest E[k] (by rw [List.drop_eq_getElem_cons hkE]; exact List.mem_cons_self)
          generalize hXX : E[k] = X at *
          clear hXX hat
          obtain ⟨w6, hw6, V6, b6, z6⟩ := boxedRow wr 108 [.int .i64 X.1, .int .i64 X.2]
          obtain ⟨p0, p1⟩ : w6.cell? ⟨wr.heap.size, 0, none⟩ = some (.int .i64 X.1) ∧ w6.cell? ⟨wr.heap.size, 1, none⟩ = some (.int .i64 X.2) := ⟨V6.cell (j := 0) rfl, V6.cell (j := 1) rfl⟩
          have HV6 : Hid (Row w6 wr.heap.size 108 [.int .i64 X.1, .int .i64 X.2]) := V6
          have B6 : Hid (Below wr.heap.size wr w6) := b6
          have hkz : (k : Int) < (ln : Int) := by omega
          have I6 : Rf.LayIn w6 (w3.heap.size + 2) (w3.heap.size + 1) w3.heap.size (w3.heap.size + 3) nn aa v out := ⟨S.inn.hn.below b6, S.inn.ha.below b6, S.inn.ho.below b6, S.inn.own.below b6, S.inn.low, S.inn.ne, Nat.le_trans S.inn.base b6.size⟩
          have HI6 : Hid (Rf.LayIn w6 (w3.heap.size + 2) (w3.heap.size + 1) w3.heap.size (w3.heap.size + 3) nn aa v out) := I6
          have HOwn : Hid (v.ownBlock ≠ some wr.heap.size) := fun e => by have := (S.inn.own.row.lt _ e).2; omega
          have hb0 := S.inn.base
          have hn0 := S.n0
          have hn1 := S.n1
          have HBs : Hid (w3.heap.size + 3 ≤ wr.heap.size) := S.inn.base
          have HSl : Hid (out.length ≤ k) := S.len
          clear V6 b6 z6 S I6 hb0
          go_wp2_with fail
          refine (lay_u w6 (w3.heap.size + 2) (w3.heap.size + 1) w3.heap.size (w3.heap.size + 3) nn aa X.1 v out HI6.out HSw.out.sm (by have := HSl.out; omega) HSw.out.a0 hrest x2 (by omega) (by omega)).mono ?_
          rintro e w7 ⟨rfl, v', D⟩
          have r3 : Row w7 wr.heap.size 108 [.int .i64 X.1, .int .i64 X.2] := HV6.out.keep (D.block _ HV6.out.lt (by have := HBs.out; omega) HOwn.out)
          have nob : ∀ j, j < w3.heap.size + 3 → v.ownBlock ≠ some j := fun j hj e => by have := (HI6.out.own.row.lt j e).1; omega
          have r1 : Row w7 (w3.heap.size + 1) 3 [.int .i64 aa] := HI6.out.ha.keep (D.block _ HI6.out.ha.lt (by omega) (nob _ (by omega)))
          have r2 : Row w7 (w3.heap.size + 2) 3 [.int .i64 nn] := HI6.out.hn.keep (D.block _ HI6.out.hn.lt (by omega) (nob _ (by omega)))
          obtain ⟨p2, p3⟩ : w7.cell? ⟨wr.heap.size, 0, none⟩ = some (.int .i64 X.1) ∧ w7.cell? ⟨wr.heap.size, 1, none⟩ = some (.int .i64 X.2) := ⟨r3.cell (j := 0) rfl, r3.cell (j := 1) rfl⟩
          have q1 : w7.cell? ⟨w3.heap.size + 1, 0, none⟩ = some (.int .i64 aa) := r1.cell (j := 0) rfl
          have f1 : w7.frozen? ⟨w3.heap.size + 1, 0, none⟩ = false := r1.frozen 0
          have q2 : w7.cell? ⟨w3.heap.size + 2, 0, none⟩ = some (.int .i64 nn) := r2.cell (j := 0) rfl
          have f2 : w7.frozen? ⟨w3.heap.size + 2, 0, none⟩ = false := r2.frozen 0
          have d1 : ¬ (wr.heap.size = w3.heap.size + 1) := by have := HBs.out; omega
          have d2 : ¬ (wr.heap.size = w3.heap.size + 2) := by have := HBs.out; omega
          have HN : Hid _ := HNx.out B6.out D
          clear D r1 r2 r3 nob p0 p1
          go_wp2
          go_roundw
          case rel => exact ⟨k + 1, by omega, by go_num, ⟨_, _, _, _, HN.out⟩⟩
          case measure => simp [intOf]; omega
        · obtain rfl : k = ln := by omega
          have v0 : wr.cell? ⟨w3.heap.size, 0, none⟩ = some v := S.inn.ho.cell (j := 0) rfl
          have HOf : Hid (OwnE 56 wr w.heap.size v (Rf.countsD l)) := by
            have h := S.eq
            rw [List.drop_eq_nil_of_le (by rw [HEn.out]; exact Nat.le_refl _)] at h
            have h2 : out = Rf.countsD l := h.symm.trans HE.out
            rw [← h2]
            exact S.inn.own.mono (by have := B3.out.size; omega)
          have HBf : Hid (Below w.heap.size w wr) := on B3.out S.low
          clear S
          go_wp2
          go_ret
          exact ⟨_, rfl, HOf.out, HBf.out⟩
end Go.Proofs.Ytinlgoljaiolnaa
namespace Go.Proofs.Ytinlgoljaiolnaa
open Go.RowKit
set_option linter.unusedVariables false
theorem rMps_at {w : World} {P : Nat → Prop} {a : Option Addr} {n c : Nat} {l : List Mpr} (h : rMps.rd w P [.slice a n c] l) (hn : 0 < n) :
    ∃ b off, a = some ⟨b, off, none⟩ ∧ P b ∧ b < w.heap.size ∧ ∀ (j : Nat) (hj : j < l.length),
      ∃ a' n' c', w.cell? ⟨b, off + j * 2, none⟩ = some (.int .i64 l[j].1) ∧ w.cell? ⟨b, off + j * 2 + 1, none⟩ = some (.slice a' n' c') ∧ rExts.rd w P [.slice a' n' c'] l[j].2 ∧ In64 l[j].1 := by
  obtain ⟨b, off, e1, e2, e3, e4⟩ := rList_at h hn
  refine ⟨b, off, e1, e2, e3, fun j hj => ?_⟩
  obtain ⟨cj, g1, g2⟩ := e4 j hj
  obtain ⟨c1, c2, rfl, ⟨rfl, k1⟩, k2⟩ := g1
  obtain ⟨a', n', c', rfl, -⟩ := id k2
  have g0 := g2 0 _ rfl
  have g1 := g2 1 _ rfl
  rw [show rMp.size = 2 from rfl] at g0 g1
  rw [Nat.add_zero] at g0
  rw [← Nat.add_assoc] at g1
  exact ⟨a', n', c', g0, g1, k2, k1⟩
end Go.Proofs.Ytinlgoljaiolnaa
namespace Go.Proofs.Ytinlgoljaiolnaa
open Go.RowKit
theorem max_fact (T : TypeId) : ∀ (x y : Int) (w : World), (Builtin.max_ #[T, T] T #[.int .i64 x, .int .i64 y]).run Try.prog w = .ok (.int .i64 (max x y)) w := by
  intro x y w
  rw [run_max_int2]
  congr 2
  split <;> omega
theorem min_fact (T : TypeId) : ∀ (x y : Int) (w : World), (Builtin.min_ #[T, T] T #[.int .i64 x, .int .i64 y]).run Try.prog w = .ok (.int .i64 (min x y)) w := by
  intro x y w
  rw [run_min_int2]
  congr 2
  split <;> omega
end Go.Proofs.Ytinlgoljaiolnaa
namespace Go.Proofs.Ytinlgoljaiolnaa
open Go.RowKit
set_option linter.unusedVariables false
structure Rf.Laid (B : Nat) (o : Value) : Prop where
  apart : ∀ b, o.ownBlock = some b → b ≠ B
theorem Rf.Laid.next {B : Nat} {v v' : Value} {w w' : World} (h : Rf.Laid B v) (g : Grew w w' v v') (hB : B < w.heap.size) : Rf.Laid B v' :=
  ⟨fun b e => by rcases g.place b e with k | k
                 · exact h.apart b k
                 · omega⟩
theorem rfr_new (w : World) (x : Rfr) (t : TypeId) : ∀ j u, (rfr4 x)[j]? = some u → (w.alloc (.cells #[.int .i64 x.1, .int .i64 x.2.1, .int .i64 x.2.2.1, .int .i64 x.2.2.2] t)).cell? ((⟨w.heap.size, 0, none⟩ : Addr).add j) = some u := by
  intro j u hj
  rw [Addr.add_lit, Nat.zero_add]
  match j, hj with
  | 0, hj => simp [rfr4] at hj; subst hj; simp
  | 1, hj => simp [rfr4] at hj; subst hj; simp
  | 2, hj => simp [rfr4] at hj; subst hj; simp
  | 3, hj => simp [rfr4] at hj; subst hj; simp
set_option maxRecDepth 20000 in
set_option maxHeartbeats 8000000 in
theorem into_u (w : World) (P : Nat → Prop) (a : Option Addr) (n c : Nat) (M : List Mpr) (hM : rMps.rd w P [.slice a n c] M) (hC : Rf.checkM M = 0) (x : Spn) (hx0 : 0 ≤ x.1) (hx1 : 1 ≤ x.2) (hx2 : In2 x) :
    Calls Try.prog 53 #[.slice a n c, .agg #[.int .i64 x.1, .int .i64 x.2]] w fun e w' => ∃ b, e = .returned b ∧ OwnR 63 w' w.heap.size b (Rf.whoR x M) ∧ Below w.heap.size w w' := by
  obtain ⟨hl, hnc, hnil, hb⟩ := rList_len hM
  have HL : Hid (M.length = n) := hl
  have HC : Hid (Rf.checkM M = 0) := hC
  have hn9 : n ≤ 9 := by have := (Rf.checkM_zero.1 hC).1; omega
  have HAll : Hid (∀ o ∈ M, -1 < o.1 ∧ 0 ≤ o.1 ∧ o.1 ≤ 255 ∧ Ex.Ok o.2) := (Rf.mays_all (Rf.checkM_zero.1 hC).2).1
  have HFew : Hid ((Rf.allR M).length ≤ 9216) := Rf.all_few hC
  unfold In2 In64 at hx2
  obtain ⟨⟨-, i1⟩, -, i2⟩ := hx2
  obtain ⟨en, hen⟩ : ∃ en, en = x.1 + min x.2 (65536 - x.1) := ⟨_, rfl⟩
  have HEN : Hid (en = x.1 + min x.2 (65536 - x.1)) := hen
  have e1 : IntKind.i64.wrap (65536 - x.1) = 65536 - x.1 := by rw [IntKind.wrap_i64]; omega
  have hmn0 : ∀ w, (Builtin.min_ #[3, 3] 3 #[.int .i64 x.2, .int .i64 (65536 - x.1)]).run Try.prog w = .ok (.int .i64 (en - x.1)) w := by
    intro w
    rw [min_fact 3 x.2 (65536 - x.1) w, hen, Int.add_comm, Int.add_sub_cancel]
  have e2 : IntKind.i64.wrap (x.1 + (en - x.1)) = en := by rw [IntKind.wrap_i64]; omega
  have HX0 : Hid (0 ≤ x.1) := hx0
  have HE0 : Hid (en ≤ 65536) := by unfold Hid; omega
  obtain ⟨w1, hw1, V1, b1, z1⟩ := boxedRow w 24 [.int .i64 x.1, .int .i64 x.2]
  obtain ⟨s0, s1⟩ : w1.cell? ⟨w.heap.size, 0, none⟩ = some (.int .i64 x.1) ∧ w1.cell? ⟨w.heap.size, 1, none⟩ = some (.int .i64 x.2) := ⟨V1.cell (j := 0) rfl, V1.cell (j := 1) rfl⟩
  have HV1 : Hid (Row w1 w.heap.size 24 [.int .i64 x.1, .int .i64 x.2]) := V1
  have B1 : Hid (Below w.heap.size w w1) := b1
  have HM1 : Hid (rMps.rd w1 P [.slice a n c] M) := Rep.below hM b1
  have HZ1 : Hid (w.heap.size < w1.heap.size) := V1.lt
  clear V1 b1 z1 hM hC hl hnc hnil hb hen hx0 hx1 i1 i2
  go_enter Try.func53, Try.ntmps53
  go_wp2
  go_loopw [6, 24] (fun o i wr => ∃ q : Nat, q ≤ n ∧ i = .int .i64 q ∧ Hid (OwnR 63 wr w1.heap.size o (Rf.cutA x (Rf.allR (M.take q)))) ∧ Below w1.heap.size w1 wr) (fun _ i _ => n - (intOf i).toNat)
  case atStart => exact ⟨0, Nat.zero_le _, rfl, OwnR.nil _ _ _, Below.refl _ _⟩
  case round =>
    obtain ⟨q, hq, rfl, HO, belo⟩ := hrel
    obtain ⟨wo, hwo⟩ : ∃ wo, wo = wr := ⟨_, rfl⟩
    rw [← hwo] at HO belo ⊢
    clear hwo
    have BO : Hid (Below w1.heap.size w1 wo) := belo
    have HZo : Hid (w1.heap.size ≤ wo.heap.size) := belo.size
    by_cases hqn : q < n
    · have hqM : q < M.length := by rw [HL.out]; exact hqn
      obtain ⟨g, off, rfl, -, hgl, hat⟩ := rMps_at HM1.out (by omega)
      obtain ⟨a2, n2, k2, c0', c1', hrx, hi64⟩ := hat q hqM
      have c0 := (belo.cell (p := ⟨g, off + q * 2, none⟩) hgl).trans c0'
      have c1 := (belo.cell (p := ⟨g, off + q * 2 + 1, none⟩) hgl).trans c1'
      have HTk : Hid (Rf.allR (M.take (q + 1)) = Rf.allR (M.take q) ++ M[q].2.map (Rf.ofExt M[q].1)) := Rf.all_take hqM
      have hOk := HAll.out M[q] (List.getElem_mem hqM)
      have HXl : Hid (M[q].2.length = n2) := (rList_len hrx).1
      have HFq : Hid (∀ k, (Rf.cutA x (Rf.allR (M.take q) ++ (M[q].2.take k).map (Rf.ofExt M[q].1))).length ≤ 9216) := fun k => by
        have h1 : (Rf.cutA x (Rf.allR (M.take q) ++ (M[q].2.take k).map (Rf.ofExt M[q].1))).length ≤ _ := List.length_filterMap_le _ _
        have h2 : ((M[q].2.take k).map (Rf.ofExt M[q].1)).length ≤ (M[q].2.map (Rf.ofExt M[q].1)).length := by simp; omega
        have h3 : Rf.allR M = Rf.allR (M.take (q + 1)) ++ Rf.allR (M.drop (q + 1)) := by
          rw [← List.take_append_drop (q + 1) M, List.take_append_drop]
          unfold Rf.allR
          rw [← List.flatMap_append, List.take_append_drop]
        have h4 := HFew.out
        rw [h3, HTk.out] at h4
        rw [List.length_append] at h1
        simp only [List.length_append] at h4
        omega
      have HOne : Hid (∀ y ∈ M[q].2, Ex.One y) := hOk.2.2.2.2.1
      have hn2 : n2 ≤ 1024 := by have := hOk.2.2.2.1; rw [HXl.out] at this; exact this
      have ho1 := hOk.2.1
      have ho2 := hOk.2.2.1
      generalize hGO : M[q].1 = O at *
      generalize hGX : M[q].2 = X at *
      clear hGO hGX hOk hat
      obtain ⟨w2, hw2, V2, b2, z2⟩ := boxedRow wo 77 [.int .i64 O, .slice a2 n2 k2]
      obtain ⟨d0, d1⟩ : w2.cell? ⟨wo.heap.size, 0, none⟩ = some (.int .i64 O) ∧ w2.cell? ⟨wo.heap.size, 1, none⟩ = some (.slice a2 n2 k2) := ⟨V2.cell (j := 0) rfl, V2.cell (j := 1) rfl⟩
      have HV2 : Hid (Row w2 wo.heap.size 77 [.int .i64 O, .slice a2 n2 k2]) := V2
      have B2 : Hid (Below w1.heap.size w1 w2) := on belo b2
      have HXr : Hid (∀ W, Below w1.heap.size w1 W → rExts.rd W P [.slice a2 n2 k2] X) := fun W b => Rep.below hrx b
      have HO2 : Hid (OwnR 63 w2 w1.heap.size u6 (Rf.cutA x (Rf.allR (M.take q)))) := HO.out.below b2
      have HLd : Hid (Rf.Laid wo.heap.size u6) := ⟨fun b e => by have := (HO.out.row.lt b e).2; omega⟩
      have hqz : (q : Int) < (n : Int) := by omega
      clear V2 b2 z2 hrx hi64 belo HO hqM c0' c1'
      go_wp2
      go_loopw [6, 31] (fun o i wr => ∃ k : Nat, k ≤ n2 ∧ i = .int .i64 k ∧ Hid (OwnR 63 wr w1.heap.size o (Rf.cutA x (Rf.allR (M.take q) ++ (X.take k).map (Rf.ofExt O)))) ∧ Hid (Rf.Laid wo.heap.size o) ∧ Hid (Row wr wo.heap.size 77 [.int .i64 O, .slice a2 n2 k2]) ∧ Below w1.heap.size w1 wr ∧ Hid (w2.heap.size ≤ wr.heap.size)) (fun _ i _ => n2 - (intOf i).toNat)
      case atStart => exact ⟨0, Nat.zero_le _, rfl, (by rw [List.take_zero, List.map_nil, List.append_nil]; exact HO2.out : OwnR _ _ _ _ _), HLd, HV2, B2.out, Nat.le_refl _⟩
      case round =>
        obtain ⟨k, hk, rfl, HO, HLk, HVk, belk, HZk⟩ := hrel
        have BK : Hid (Below w1.heap.size w1 wr) := belk
        obtain ⟨v0, v1⟩ : wr.cell? ⟨wo.heap.size, 0, none⟩ = some (.int .i64 O) ∧ wr.cell? ⟨wo.heap.size, 1, none⟩ = some (.slice a2 n2 k2) := ⟨HVk.out.cell (j := 0) rfl, HVk.out.cell (j := 1) rfl⟩
        by_cases hkn : k < n2
        · have hkX : k < X.length := by rw [HXl.out]; exact hkn
          obtain ⟨g2, o2, rfl, -, hg2, hat2⟩ := rExts_at (HXr.out wr belk) (by omega)
          obtain ⟨y0, y1, y2, -⟩ := hat2 k hkX
          have hYo := HOne.out X[k] (List.getElem_mem hkX)
          have HNx : Hid _ := Rf.cutA_next (x := x) (A := Rf.allR (M.take q)) (o := O) hkX
          have hfew := HFq.out k
          obtain ⟨Y, hY⟩ : ∃ Y, Y = X[k] := ⟨_, rfl⟩
          rw [← hY] at y0 y1 y2 hYo HNx
          clear hY hat2
          unfold Ex.One Ex.Fits at hYo
          obtain ⟨t1, ⟨t2, t3, t4, t5⟩, t6, t7, t8, t9⟩ := hYo
          obtain ⟨fr, hfr⟩ : ∃ fr, fr = max Y.2.1 x.1 := ⟨_, rfl⟩
          obtain ⟨to_, hto⟩ : ∃ to_, to_ = min (Y.2.1 + Y.2.2) en := ⟨_, rfl⟩
          have hmx : ∀ w, (Builtin.max_ #[3, 3] 3 #[.int .i64 Y.2.1, .int .i64 x.1]).run Try.prog w = .ok (.int .i64 fr) w := fun w => by rw [max_fact 3 Y.2.1 x.1 w, hfr]
          have hmn : ∀ w, (Builtin.min_ #[3, 3] 3 #[.int .i64 (Y.2.1 + Y.2.2), .int .i64 en]).run Try.prog w = .ok (.int .i64 to_) w := fun w => by rw [min_fact 3 (Y.2.1 + Y.2.2) en w, hto]
          have HCut : Hid (Rf.cutR x (Rf.ofExt O Y) = if fr < to_ then some (fr, to_ - fr, O, Y.1 + fr - Y.2.1) else none) := by
            unfold Hid Rf.cutR Rf.ofExt
            have h1 := Rf.cut_end (r := (Y.2.1, Y.2.2, O, Y.1)) HEN.out (show Y.2.1 + Y.2.2 ≤ 65536 by omega)
            simp only at h1 ⊢
            rw [h1, hfr, hto]
          have h65 := HE0.out
          have hx0' := HX0.out
          have f1 : 0 ≤ fr := by omega
          have f2 : to_ ≤ 65536 := by omega
          have f3 : Y.2.1 ≤ fr := by omega
          have f4 : fr < to_ → Y.1 + fr - Y.2.1 ≤ 65536 := by omega
          have HF4 : Hid _ := f4
          have HFto : Hid (to_ = min (Y.2.1 + Y.2.2) en) := hto
          obtain ⟨w6, hw6, V6, b6, z6⟩ := boxedRow wr 80 [.int .i64 Y.1, .int .i64 Y.2.1, .int .i64 Y.2.2]
          obtain ⟨p0, p1, p2⟩ := V6.three
          have S0 : w6.cell? ⟨w.heap.size, 0, none⟩ = some (.int .i64 x.1) := (HV1.out.keep ((on belk b6).block w.heap.size HZ1.out)).cell (j := 0) rfl
          have v0' : w6.cell? ⟨wo.heap.size, 0, none⟩ = some (.int .i64 O) := (HVk.out.below b6).cell (j := 0) rfl
          have B6 : Hid (Below w1.heap.size w1 w6) := on belk b6
          have HO6 : Hid (OwnR 63 w6 w1.heap.size _ _) := HO.out.below b6
          have HV6 : Hid (Row w6 wo.heap.size 77 [.int .i64 O, .slice (some ⟨g2, o2, none⟩) n2 k2]) := HVk.out.below b6
          have hkz : (k : Int) < (n2 : Int) := by omega
          have HZ6 : Hid (w2.heap.size ≤ w6.heap.size) := Nat.le_trans HZk.out b6.size
          have HW12 : Hid (w1.heap.size ≤ w6.heap.size) := B6.out.size
          have eY : IntKind.i64.wrap (Y.2.1 + Y.2.2) = Y.2.1 + Y.2.2 := by rw [IntKind.wrap_i64]; omega
          clear V6 b6 z6 HO f4 hfr hto h65 hx0' belk
          by_cases hlt : fr < to_
          · have hg := HF4.out hlt
            have HIn4 : Hid (In4 (fr, to_ - fr, O, Y.1 + fr - Y.2.1)) := by unfold Hid In4 In64; simp only; omega
            have HNew : Hid (∀ j u, (rfr4 (fr, to_ - fr, O, Y.1 + fr - Y.2.1))[j]? = some u → (w6.alloc (Obj.cells #[.int .i64 fr, .int .i64 (to_ - fr), .int .i64 O, .int .i64 (Y.1 + fr - Y.2.1)] 63)).drew.cell? ((⟨w6.heap.size, 0, none⟩ : Addr).add j) = some u) := rfr_new w6 (fr, to_ - fr, O, Y.1 + fr - Y.2.1) 63
            have ba : Below w6.heap.size w6 (w6.alloc (Obj.cells #[.int .i64 fr, .int .i64 (to_ - fr), .int .i64 O, .int .i64 (Y.1 + fr - Y.2.1)] 63)).drew := ((Below.refl w6.heap.size w6).alloc (Nat.le_refl _) _).drew
            have hoa := HO6.out.below ba
            have hsz : w1.heap.size ≤ (w6.alloc (Obj.cells #[.int .i64 fr, .int .i64 (to_ - fr), .int .i64 O, .int .i64 (Y.1 + fr - Y.2.1)] 63)).drew.heap.size := Nat.le_trans HW12.out ba.size
            obtain ⟨v', w8, hr1, ho1', g1⟩ := run_append_rfr hoa (c := 1) HNew.out HIn4.out (by omega) hsz 27
            have hbx : wo.heap.size < w6.heap.size := HV6.out.lt
            have HR8 : Hid _ := hr1
            have HO8 : Hid (OwnR 63 w8 w1.heap.size v' (Rf.cutA x (Rf.allR (M.take q) ++ (X.take (k + 1)).map (Rf.ofExt O)))) := by unfold Hid; rw [HNx.out, HCut.out, if_pos hlt]; exact ho1'
            have HL8 : Hid (Rf.Laid wo.heap.size v') := HLk.out.next g1 (Nat.lt_of_lt_of_le hbx ba.size)
            have HV8 : Hid (Row w8 wo.heap.size 77 [.int .i64 O, .slice (some ⟨g2, o2, none⟩) n2 k2]) := (HV6.out.below ba).keep (g1.block _ (Nat.lt_of_lt_of_le hbx ba.size) (fun e => HLk.out.apart _ e.symm rfl))
            have HB8 : Hid (Below w1.heap.size w1 w8) := (B6.out.alloc HW12.out _).drew.trans (hoa.base_below hsz g1)
            have HZ8 : Hid (w2.heap.size ≤ w8.heap.size) := Nat.le_trans HZ6.out (Nat.le_trans ba.size g1.grown.size)
            clear hr1 ho1' g1 hoa hsz ba hbx
            go_wp2_with fail
            go_region
            go_wp2_with (at_builtin; refine Lib.wpList_append_run _ rfl _ _ _ _ rfl _ _ rfl rfl _ _ HR8.out ?_)
            go_roundw
            case rel => exact ⟨k + 1, by omega, by go_num, HO8, HL8, HV8, HB8.out, HZ8⟩
            case measure => simp [intOf]; omega
          · have HO8 : Hid (OwnR 63 w6.drew w1.heap.size u6 (Rf.cutA x (Rf.allR (M.take q) ++ (X.take (k + 1)).map (Rf.ofExt O)))) := by
              unfold Hid
              rw [HNx.out, HCut.out, if_neg hlt]
              show OwnR _ _ _ _ (_ ++ [])
              rw [List.append_nil]
              exact HO6.out.keep (fun _ _ _ => rfl)
            have HV8 : Hid (Row w6.drew wo.heap.size 77 [.int .i64 O, .slice (some ⟨g2, o2, none⟩) n2 k2]) := HV6.out.keep rfl
            go_wp2_with fail
            go_region
            go_wp2
            go_roundw
            case rel => exact ⟨k + 1, by omega, by go_num, HO8, HLk, HV8, B6.out.drew, HZ6⟩
            case measure => simp [intOf]; omega
        · obtain rfl : k = n2 := by omega
          have HOe : Hid (OwnR 63 wr w1.heap.size u6 (Rf.cutA x (Rf.allR (M.take (q + 1))))) := by
            have h := HO.out
            have eX : X.take k = X := List.take_of_length_le (by rw [HXl.out]; exact Nat.le_refl _)
            rw [eX, ← HTk.out] at h
            exact h
          clear HO
          go_wp2
          go_roundw
          case rel => exact ⟨q + 1, by omega, by go_num, HOe, BK.out⟩
          case measure => simp [intOf]; omega
    · obtain rfl : q = n := by omega
      have HTn : Hid (M.take q = M) := List.take_of_length_le (by rw [HL.out]; exact Nat.le_refl _)
      have HOa : Hid (OwnR 63 wo w1.heap.size u6 (Rf.cutA x (Rf.allR M))) := by have h := HO.out; rw [HTn.out] at h; exact h
      obtain ⟨ao, co, hvo, -, -⟩ := HOa.out.slice
      subst hvo
      have HFw : Hid ((Rf.cutA x (Rf.allR M)).length ≤ 1000000) := by
        have h1 : (Rf.cutA x (Rf.allR M)).length ≤ (Rf.allR M).length := List.length_filterMap_le _ _
        have h2 := HFew.out
        unfold Hid
        omega
      clear HO
      generalize hgl : (Rf.cutA x (Rf.allR M)).length = ln at *
      have HGl : Hid _ := hgl
      clear hgl
      go_wp2_with fail
      refine (sortR_u _ _ _ _ _ _ HOa.out (by rw [HGl.out]; exact HFw.out)).mono ?_
      rintro e w9 ⟨rfl, D, hperm, hup, ho9, b9⟩
      have HD : Hid (D = Rf.whoR x M) := Rf.who_landed (Rf.okM HC.out) hperm hup
      have HO9 : Hid (OwnR 63 w9 w1.heap.size _ D) := ho9
      have B9 : Hid (Below w1.heap.size w1 w9) := BO.out.trans b9
      clear hperm hup ho9 b9
      go_wp2
      go_ret
      exact ⟨_, rfl, by rw [← HD.out]; exact HO9.out.mono (Nat.le_of_lt HZ1.out), on B1.out B9.out⟩
end Go.Proofs.Ytinlgoljaiolnaa
namespace Go.Proofs.Ytinlgoljaiolnaa
open Go.RowKit
set_option linter.unusedVariables false
set_option maxHeartbeats 800000 in
theorem isOwner_u (w : World) (n : Int) (r : Bool) (hr : decide (0 ≤ n ∧ n ≤ 255) = r) : Calls Try.prog 45 #[.int .i64 n] w fun e w' => e = .returned (.bool r) ∧ w = w' := by
  subst hr
  have HF : Hid (decide (0 ≤ n ∧ n ≤ 255) = true ↔ 0 ≤ n ∧ n ≤ 255) := by unfold Hid; exact ⟨fun h => of_decide_eq_true h, fun h => decide_eq_true h⟩
  generalize decide (0 ≤ n ∧ n ≤ 255) = r at *
  go_enter Try.func45, Try.ntmps45
  go_wp2
  all_goals go_ret
  all_goals refine ⟨ret_flag ?_, rfl⟩
  all_goals rw [HF.out]
  all_goals first
    | omega
    | (simp only [decide_eq_true_eq]; omega)
    | (simp only [Bool.false_eq_true, false_iff]; omega)
structure Rf.Came (M : List Mpr) (k : Nat) (p : Int) : Prop where
  first : k = 0 → p = -1
  prev : ∀ i (h : i < M.length), i + 1 = k → M[i].1 = p
  left : Rf.maysM (-1) M = Rf.maysM p (M.drop k)
theorem Rf.Came.step {M : List Mpr} {k : Nat} {p : Int} (h : Rf.Came M k p) (hk : k < M.length) : Rf.maysM (-1) M = (decide (0 ≤ M[k].1 ∧ M[k].1 ≤ 255 ∧ p < M[k].1 ∧ Ex.checkE M[k].2 = 0) && Rf.maysM M[k].1 (M.drop (k + 1))) := by
  rw [h.left, List.drop_eq_getElem_cons hk]
  rfl
theorem Rf.Came.next {M : List Mpr} {k : Nat} {p : Int} (h : Rf.Came M k p) (hk : k < M.length) (ho : 0 ≤ M[k].1 ∧ M[k].1 ≤ 255 ∧ p < M[k].1 ∧ Ex.checkE M[k].2 = 0) : Rf.Came M (k + 1) M[k].1 :=
  ⟨fun e => by omega, fun i hi e => by obtain rfl : i = k := by omega
                                       rfl, by rw [h.step hk, decide_eq_true ho, Bool.true_and]⟩
theorem Rf.Came.no {M : List Mpr} {k : Nat} {p : Int} (h : Rf.Came M k p) (hk : k < M.length) (ho : ¬ (0 ≤ M[k].1 ∧ M[k].1 ≤ 255 ∧ p < M[k].1 ∧ Ex.checkE M[k].2 = 0)) : Rf.checkM M = 9 := by
  refine Rf.checkM_nine (fun hh => ?_)
  have := hh.2
  rw [h.step hk, decide_eq_false ho, Bool.false_and] at this
  cases this
set_option maxRecDepth 20000 in
set_option maxHeartbeats 8000000 in
theorem refsCheck_u (w : World) (P : Nat → Prop) (a : Option Addr) (n c : Nat) (M : List Mpr) (hM : rMps.rd w P [.slice a n c] M) :
    Calls Try.prog 23 #[.slice a n c] w fun e w' => e = .returned (.int .i64 (Rf.checkM M)) ∧ Below w.heap.size w w' := by
  obtain ⟨hl, hnc, hnil, hb⟩ := rList_len hM
  have HL : Hid (M.length = n) := hl
  have HM : Hid (rMps.rd w P [.slice a n c] M) := hM
  clear hl hnc hnil hb hM
  by_cases h9 : 9 < n
  · have E9 : Hid (Rf.checkM M = 9) := Rf.checkM_nine (fun h => by have := h.1; rw [HL.out] at this; omega)
    go_enter Try.func23, Try.ntmps23
    go_wp2
    go_ret
    exact ⟨by rw [E9.out]; rfl, Below.refl _ _⟩
  go_enter Try.func23, Try.ntmps23
  go_wp2
  go_loopw [11] (fun i wr => ∃ k : Nat, k ≤ n ∧ i = .int .i64 k ∧ Hid (∃ p, Rf.Came M k p) ∧ Below w.heap.size w wr) (fun i _ => n - (intOf i).toNat)
  case atStart => exact ⟨0, Nat.zero_le _, rfl, ⟨-1, fun _ => rfl, fun i _ e => by omega, rfl⟩, Below.refl _ _⟩
  case round =>
    obtain ⟨k, hk, rfl, HK, bel⟩ := hrel
    by_cases hlt : k < n
    · have hkl : k < M.length := by rw [HL.out]; exact hlt
      have hAr := Rep.below HM.out bel
      obtain ⟨g, off, rfl, -, hgl, hat⟩ := rMps_at hAr (by omega)
      obtain ⟨a1, n1, k1, c0, c1, hrx, hi64⟩ := hat k hkl
      obtain ⟨p, hp⟩ := HK.out
      have HP : Hid (Rf.Came M k p) := hp
      have HNO : Hid (¬ (0 ≤ M[k].1 ∧ M[k].1 ≤ 255 ∧ p < M[k].1 ∧ Ex.checkE M[k].2 = 0) → Rf.checkM M = 9) := hp.no hkl
      have HNX : Hid ((0 ≤ M[k].1 ∧ M[k].1 ≤ 255 ∧ p < M[k].1 ∧ Ex.checkE M[k].2 = 0) → Rf.Came M (k + 1) M[k].1) := hp.next hkl
      have HPr : Hid (∀ m, m + 1 = k → ∀ hm : m < M.length, M[m].1 = p) := fun m e hm => hp.prev m hm e
      have HP0 : Hid (k = 0 → p = -1) := hp.first
      have HAT : Hid _ := hat
      generalize hO : M[k].1 = O at *
      generalize hX : M[k].2 = X at *
      clear hO hX hp
      obtain ⟨w1, hw1, V1, b1, z1⟩ := boxedRow wr 77 [.int .i64 O, .slice a1 n1 k1]
      obtain ⟨d0, d1⟩ : w1.cell? ⟨wr.heap.size, 0, none⟩ = some (.int .i64 O) ∧ w1.cell? ⟨wr.heap.size, 1, none⟩ = some (.slice a1 n1 k1) := ⟨V1.cell (j := 0) rfl, V1.cell (j := 1) rfl⟩
      have HV1 : Hid (Row w1 wr.heap.size 77 [.int .i64 O, .slice a1 n1 k1]) := V1
      have B1 : Hid (Below w.heap.size w w1) := on bel b1
      have HX1 : Hid (rExts.rd w1 P [.slice a1 n1 k1] X) := Rep.below hrx b1
      have hkz : (k : Int) < (n : Int) := by omega
      have HBd : Hid (Below wr.heap.size wr w1) := b1
      have HXd : Hid (rExts.rd w1.drew P [.slice a1 n1 k1] X) := rExts.keep HX1.out (fun _ _ _ => rfl)
      clear V1 z1 hrx hAr bel hi64
      cases k with
      | zero =>
        simp only [Nat.zero_mul, Nat.add_zero] at c0 c1
        obtain rfl : p = -1 := HP0.out rfl
        cases eo : decide (0 ≤ O ∧ O ≤ 255)
        · have E9 : Hid (Rf.checkM M = 9) := HNO.out (fun h => absurd (And.intro h.1 h.2.1) (of_decide_eq_false eo))
          go_wp2_with fail
          go_region
          go_wp2_with fail
          refine (isOwner_u _ _ _ eo).mono ?_
          rintro e w9 ⟨rfl, rfl⟩
          go_wp2
          go_ret
          exact ⟨by rw [E9.out]; rfl, B1.out.drew⟩
        have HOW : Hid (0 ≤ O ∧ O ≤ 255) := (of_decide_eq_true eo : 0 ≤ O ∧ O ≤ 255)
        have HRI : Hid ((-1 : Int) < O) := by have := HOW.out.1; unfold Hid; omega
        by_cases hxo : Ex.checkE X = 0
        · have HN : Hid (∃ p, Rf.Came M (0 + 1) p) := ⟨O, HNX.out ⟨HOW.out.1, HOW.out.2, HRI.out, hxo⟩⟩
          have HX0 : Hid (Ex.checkE X = 0) := hxo
          clear hxo
          go_wp2_with fail
          go_region
          go_wp2_with fail
          refine (isOwner_u _ _ _ eo).mono ?_
          rintro e w9 ⟨rfl, rfl⟩
          go_wp2_with fail
          refine (extCheck_u _ P _ _ _ X HXd.out).mono ?_
          rintro e w2 ⟨rfl, b2⟩
          rw [HX0.out]
          have B2 : Hid (Below w.heap.size w w2) := on B1.out.drew b2
          clear b2
          go_wp2
          go_roundw
          case rel => exact ⟨0 + 1, by omega, by go_num, HN, B2.out⟩
          case measure => simp [intOf]; omega
        · have E9 : Hid (Rf.checkM M = 9) := HNO.out (fun h => hxo h.2.2.2)
          have HX9 : Hid (Ex.checkE X = 9) := Ex.checkE_no (fun h => hxo (Ex.checkE_ok h))
          clear hxo
          go_wp2_with fail
          go_region
          go_wp2_with fail
          refine (isOwner_u _ _ _ eo).mono ?_
          rintro e w9 ⟨rfl, rfl⟩
          go_wp2_with fail
          refine (extCheck_u _ P _ _ _ X HXd.out).mono ?_
          rintro e w2 ⟨rfl, b2⟩
          rw [HX9.out]
          have B2 : Hid (Below w.heap.size w w2) := on B1.out.drew b2
          clear b2
          go_wp2
          go_ret
          exact ⟨by rw [E9.out]; rfl, B2.out⟩
      | succ m =>
        obtain ⟨aq, nq', cq, q0, -, -, -⟩ := HAT.out m (by omega)
        rw [HPr.out m rfl (by omega)] at q0
        have p0 := (HBd.out.cell (p := ⟨g, off + m * 2, none⟩) hgl).trans q0
        have hm1 : (m : Int) < (n : Int) := by omega
        have hm0 : ((m : Int) + 1 == 0) = false := by rw [beq_eq_false_iff_ne]; omega
        clear q0
        cases eo : decide (0 ≤ O ∧ O ≤ 255)
        · have E9 : Hid (Rf.checkM M = 9) := HNO.out (fun h => absurd (And.intro h.1 h.2.1) (of_decide_eq_false eo))
          go_wp2_with fail
          go_region
          go_wp2_with fail
          refine (isOwner_u _ _ _ eo).mono ?_
          rintro e w9 ⟨rfl, rfl⟩
          go_wp2
          go_ret
          exact ⟨by rw [E9.out]; rfl, B1.out.drew⟩
        have HOW : Hid (0 ≤ O ∧ O ≤ 255) := (of_decide_eq_true eo : 0 ≤ O ∧ O ≤ 255)
        by_cases hri : p < O
        · have HRI : Hid (p < O) := hri
          by_cases hxo : Ex.checkE X = 0
          · have HN : Hid (∃ p, Rf.Came M (m + 1 + 1) p) := ⟨O, HNX.out ⟨HOW.out.1, HOW.out.2, HRI.out, hxo⟩⟩
            have HX0 : Hid (Ex.checkE X = 0) := hxo
            clear hxo
            go_wp2_with fail
            go_region
            go_wp2_with fail
            refine (isOwner_u _ _ _ eo).mono ?_
            rintro e w9 ⟨rfl, rfl⟩
            go_wp2_with fail
            refine (extCheck_u _ P _ _ _ X HXd.out).mono ?_
            rintro e w2 ⟨rfl, b2⟩
            rw [HX0.out]
            have B2 : Hid (Below w.heap.size w w2) := on B1.out.drew b2
            clear b2
            go_wp2
            go_roundw
            case rel => exact ⟨m + 1 + 1, by omega, by go_num, HN, B2.out⟩
            case measure => simp [intOf]; omega
          · have E9 : Hid (Rf.checkM M = 9) := HNO.out (fun h => hxo h.2.2.2)
            have HX9 : Hid (Ex.checkE X = 9) := Ex.checkE_no (fun h => hxo (Ex.checkE_ok h))
            clear hxo
            go_wp2_with fail
            go_region
            go_wp2_with fail
            refine (isOwner_u _ _ _ eo).mono ?_
            rintro e w9 ⟨rfl, rfl⟩
            go_wp2_with fail
            refine (extCheck_u _ P _ _ _ X HXd.out).mono ?_
            rintro e w2 ⟨rfl, b2⟩
            rw [HX9.out]
            have B2 : Hid (Below w.heap.size w w2) := on B1.out.drew b2
            clear b2
            go_wp2
            go_ret
            exact ⟨by rw [E9.out]; rfl, B2.out⟩
        · have E9 : Hid (Rf.checkM M = 9) := HNO.out (fun h => hri h.2.2.1)
          go_wp2_with fail
          go_region
          go_wp2_with fail
          refine (isOwner_u _ _ _ eo).mono ?_
          rintro e w9 ⟨rfl, rfl⟩
          go_wp2
          go_ret
          exact ⟨by rw [E9.out]; rfl, B1.out.drew⟩
    · obtain rfl : k = n := by omega
      have E0 : Hid (Rf.checkM M = 0) := Rf.checkM_zero.2 ⟨by rw [HL.out]; omega, by
        obtain ⟨p, hp⟩ := HK.out
        rw [hp.left, List.drop_eq_nil_of_le (by rw [HL.out]; exact Nat.le_refl _)]
        rfl⟩
      go_wp2
      go_ret
      exact ⟨by rw [E0.out]; rfl, bel⟩
end Go.Proofs.Ytinlgoljaiolnaa
namespace Go.Proofs.Ytinlgoljaiolnaa
open Go.RowKit
set_option linter.unusedVariables false
namespace Rf
def whoE (x : Spn) (M : List Mpr) : Int := if checkM M = 0 then (if x.1 < 0 ∨ x.2 < 1 then 4 else 0) else 9
def cntL (x : Spn) (M : List Mpr) : List Cnr := if whoE x M = 0 then countsD (whoR x M) else []
theorem whoE_zero {x : Spn} {M : List Mpr} : whoE x M = 0 ↔ checkM M = 0 ∧ 0 ≤ x.1 ∧ 1 ≤ x.2 := by
  unfold whoE
  split
  · rename_i h
    split
    · rename_i k; exact ⟨fun e => by simp at e, fun e => by omega⟩
    · rename_i k; exact ⟨fun _ => ⟨h, by omega, by omega⟩, fun _ => rfl⟩
  · rename_i h; exact ⟨fun e => by simp at e, fun e => absurd e.1 h⟩
theorem whoE_nine {x : Spn} {M : List Mpr} (h : ¬ checkM M = 0) : whoE x M = 9 := if_neg h
theorem whoE_four {x : Spn} {M : List Mpr} (h : checkM M = 0) (k : x.1 < 0 ∨ x.2 < 1) : whoE x M = 4 := by unfold whoE; rw [if_pos h, if_pos k]
theorem checkM_or (M : List Mpr) : checkM M = 0 ∨ checkM M = 9 := by unfold checkM; split <;> simp
theorem cntL_no {x : Spn} {M : List Mpr} (h : ¬ whoE x M = 0) : cntL x M = [] := if_neg h
theorem cntL_ok {x : Spn} {M : List Mpr} (h : whoE x M = 0) : cntL x M = countsD (whoR x M) := if_pos h
end Rf
set_option maxHeartbeats 800000 in
theorem allSectors_u (w : World) : Calls Try.prog 31 #[] w fun e w' => e = .returned (.agg #[.int .i64 0, .int .i64 65536]) ∧ Below w.heap.size w w' := by
  go_enter Try.func31, Try.ntmps31
  go_wp2
  exact bodyPost_ret (results_row (b := w.heap.size) (xs := [.int .i64 0, .int .i64 65536]) rfl rfl (row_new w 24 [.int .i64 0, .int .i64 65536]) Try.underlying24 rfl (by kernel_rfl)) rfl ⟨rfl, (Below.refl _ _).alloc (Nat.le_refl _) _⟩
set_option maxRecDepth 20000 in
set_option maxHeartbeats 4000000 in
theorem askedC_u (w : World) (P : Nat → Prop) (a : Option Addr) (n c : Nat) (M : List Mpr) (hM : rMps.rd w P [.slice a n c] M) (x : Spn) (hx : In2 x) :
    Calls Try.prog 33 #[.slice a n c, .agg #[.int .i64 x.1, .int .i64 x.2], .func (.func 34) #[] #[]] w fun e w' => ∃ b, e = .returned (.tuple #[b, .int .i64 (Rf.whoE x M)]) ∧ OwnE 56 w' w.heap.size b (Rf.cntL x M) ∧ Below w.heap.size w w' := by
  obtain ⟨w1, hw1, V1, b1, z1⟩ := boxedRow w 24 [.int .i64 x.1, .int .i64 x.2]
  obtain ⟨s0, s1⟩ : w1.cell? ⟨w.heap.size, 0, none⟩ = some (.int .i64 x.1) ∧ w1.cell? ⟨w.heap.size, 1, none⟩ = some (.int .i64 x.2) := ⟨V1.cell (j := 0) rfl, V1.cell (j := 1) rfl⟩
  have HV1 : Hid (Row w1 w.heap.size 24 [.int .i64 x.1, .int .i64 x.2]) := V1
  have B1 : Hid (Below w.heap.size w w1) := b1
  have HM1 : Hid (rMps.rd w1 P [.slice a n c] M) := Rep.below hM b1
  have HX : Hid (In2 x) := hx
  clear V1 b1 z1 hM hx
  by_cases hC : Rf.checkM M = 0
  · have HC : Hid (Rf.checkM M = 0) := hC
    by_cases hxx : x.1 < 0 ∨ x.2 < 1
    · have E4 : Hid (Rf.whoE x M = 4) := Rf.whoE_four hC hxx
      clear hC
      go_enter Try.func33, Try.ntmps33
      go_wp2_with fail
      refine (refsCheck_u _ P _ _ _ M HM1.out).mono ?_
      rintro e w2 ⟨rfl, b2⟩
      rw [HC.out]
      obtain ⟨t0, t1⟩ : w2.cell? ⟨w.heap.size, 0, none⟩ = some (.int .i64 x.1) ∧ w2.cell? ⟨w.heap.size, 1, none⟩ = some (.int .i64 x.2) := ⟨(HV1.out.below b2).cell (j := 0) rfl, (HV1.out.below b2).cell (j := 1) rfl⟩
      have B2 : Hid (Below w.heap.size w w2) := on B1.out b2
      clear b2
      by_cases h0 : x.1 < 0
      · go_wp2
        go_ret2
        exact ⟨_, by rw [E4.out]; rfl, by rw [Rf.cntL_no (by rw [E4.out]; decide)]; exact OwnE.nil _ _ _, B2.out⟩
      · have h1 : x.2 < 1 := by omega
        go_wp2
        go_ret2
        exact ⟨_, by rw [E4.out]; rfl, by rw [Rf.cntL_no (by rw [E4.out]; decide)]; exact OwnE.nil _ _ _, B2.out⟩
    · have E0 : Hid (Rf.whoE x M = 0) := Rf.whoE_zero.2 ⟨hC, by omega, by omega⟩
      have h0 : 0 ≤ x.1 := by omega
      have h1 : 1 ≤ x.2 := by omega
      clear hC hxx
      go_enter Try.func33, Try.ntmps33
      go_wp2_with fail
      refine (refsCheck_u _ P _ _ _ M HM1.out).mono ?_
      rintro e w2 ⟨rfl, b2⟩
      rw [HC.out]
      obtain ⟨t0, t1⟩ : w2.cell? ⟨w.heap.size, 0, none⟩ = some (.int .i64 x.1) ∧ w2.cell? ⟨w.heap.size, 1, none⟩ = some (.int .i64 x.2) := ⟨(HV1.out.below b2).cell (j := 0) rfl, (HV1.out.below b2).cell (j := 1) rfl⟩
      have B2 : Hid (Below w.heap.size w w2) := on B1.out b2
      have HM2 : Hid (rMps.rd w2 P [.slice a n c] M) := Rep.below HM1.out b2
      clear b2
      go_wp2_with fail
      refine (into_u _ P _ _ _ M HM2.out HC.out x h0 h1 HX.out).mono ?_
      rintro e w3 ⟨b, rfl, ho, b3⟩
      obtain ⟨a3, c3, rfl, -, -⟩ := ho.slice
      have HO3 : Hid (OwnR 63 w3 w2.heap.size _ _) := ho
      have B3 : Hid (Below w.heap.size w w3) := on B2.out b3
      have HZ2 : Hid (w.heap.size ≤ w2.heap.size) := B2.out.size
      clear ho b3
      go_wp2_with fail
      refine (counted_u _ _ _ _ _ (Rf.whoR x M) (HO3.out.rd (by have := Rf.who_few (x := x) HC.out; omega)) (Rf.who_low HC.out) (Rf.who_few HC.out)).mono ?_
      rintro e w4 ⟨b, rfl, ho, b4⟩
      have HO4 : Hid (OwnE 56 w4 w3.heap.size _ _) := ho
      have B4 : Hid (Below w.heap.size w w4) := on B3.out b4
      clear ho b4
      go_wp2
      go_ret2
      exact ⟨_, by rw [E0.out]; rfl, by rw [Rf.cntL_ok E0.out]; exact HO4.out.mono B3.out.size, B4.out⟩
  · have HC : Hid (Rf.checkM M = 9) := (Rf.checkM_or M).resolve_left hC
    have E9 : Hid (Rf.whoE x M = 9) := Rf.whoE_nine hC
    clear hC
    go_enter Try.func33, Try.ntmps33
    go_wp2_with fail
    refine (refsCheck_u _ P _ _ _ M HM1.out).mono ?_
    rintro e w2 ⟨rfl, b2⟩
    rw [HC.out]
    have B2 : Hid (Below w.heap.size w w2) := on B1.out b2
    clear b2
    go_wp2
    go_ret2
    exact ⟨_, by rw [E9.out]; rfl, by rw [Rf.cntL_no (by rw [E9.out]; decide)]; exact OwnE.nil _ _ _, B2.out⟩
def allS : Spn := (0, 65536)
set_option maxHeartbeats 2000000 in
theorem refsCounts_u (w : World) (P : Nat → Prop) (a : Option Addr) (n c : Nat) (M : List Mpr) (hM : rMps.rd w P [.slice a n c] M) :
    Calls Try.prog 12 #[.slice a n c] w fun e w' => ∃ b, e = .returned (.tuple #[b, .int .i64 (Rf.whoE allS M)]) ∧ OwnE 56 w' w.heap.size b (Rf.cntL allS M) ∧ Below w.heap.size w w' := by
  have HM : Hid (rMps.rd w P [.slice a n c] M) := hM
  clear hM
  go_enter Try.func12, Try.ntmps12
  go_wp2_with fail
  refine (allSectors_u _).mono ?_
  rintro e w1 ⟨rfl, b1⟩
  have B1 : Hid (Below w.heap.size w w1) := b1
  have HM1 : Hid (rMps.rd w1 P [.slice a n c] M) := Rep.below HM.out b1
  clear b1
  go_wp2_with fail
  refine (askedC_u _ P _ _ _ M HM1.out allS (by unfold In2 In64 allS; decide)).mono ?_
  rintro e w2 ⟨b, rfl, ho, b2⟩
  have HO : Hid (OwnE 56 w2 w.heap.size b (Rf.cntL allS M)) := ho.mono B1.out.size
  have B2 : Hid (Below w.heap.size w w2) := on B1.out b2
  clear ho b2
  go_wp2
  go_ret2
  exact ⟨_, rfl, HO.out, B2.out⟩
end Go.Proofs.Ytinlgoljaiolnaa
