/-
  The landed free: the state of what is written. Conditions: those that each contract names.
-/
import Derived.Test.YtbbjbajdoekheaaYW
import Derived.Test.YtbbjbajdoekheaaFRet
namespace Go.Proofs.Ytbbjbajdoekheaa
open Go.RowKit
set_option linter.unusedVariables false

/-- A function that lays these pieces, by whatever function it is handed. -/
def Writes (f : Nat) (bs : Array Value) (w : World) (ps : List Fr.Pc) : Prop :=
  ∀ (g : Nat) (cs : Array Value) (J : List Fr.Pc → (Nat → Prop) → World → Prop) (S : Nat → Prop) (w1 : World), Lays g cs J → J [] S w1 → Below w.heap.size w w1 → (∀ k, S k → w.heap.size ≤ k) →
    Calls Try.prog f (#[.func (.func g) #[] cs] ++ bs) w1 fun e w2 => e = .returned (.tuple #[]) ∧ ∃ S', J ps S' w2 ∧ Turns S S' w1 w2

theorem OwnS.kept {e : TypeId} {w w' : World} {base b : Nat} {v : Value} {l : List Spn} (h : OwnS e w base v l) (k : Kept (· ≠ b) w w') (hb : b < base) : OwnS e w' base v l :=
  h.keep1 fun g eg => k.block g (by have := (h.row.lt g eg).1; omega)

set_option maxHeartbeats 2000000 in
theorem laid_u (w : World) (f : Nat) (bs : Array Value) (eg : ∀ args w, (callFunc f args).run Try.prog w = .ok (.enter f args) w) (z : Int) (ps : List Fr.Pc) (M : List Spn) (hM : Fr.layAll [] ps = M) (hw : Writes f bs w ps) :
    Calls Try.prog 40 #[.int .i64 z, .func (.func f) #[] bs] w fun e w' => ∃ v, e = .returned (.tuple #[.agg #[.int .i64 (Fr.manyZ z M), v], .int .i64 (Fr.manyE M)]) ∧ OwnS 26 w' w.heap.size v (Fr.manyL M) ∧ Below w.heap.size w w' := by
  obtain ⟨w0, hw0, V0, b0, z0⟩ := boxedRow w 27 [.int .i64 0, .slice none 0 0]
  obtain ⟨w1, hw1, V1, b1, z1⟩ := boxedRow w0 27 [.int .i64 z, .slice none 0 0]
  have hw1' : w1 = w0.alloc (.cells #[.int .i64 z, .slice none 0 0] 27) := hw1.symm
  clear hw1
  have B1 : Hid (Below w.heap.size w w1) := on b0 b1
  rw [z0] at V1
  have HO : Hid (OutBox (w.heap.size + 1) z [] (fun k => k = w.heap.size + 1) w1) := ⟨⟨_, V1, OwnS.nil _ _ _, fun k => by simp [Value.ownBlock]⟩, fun q hq => by cases hq⟩
  have HC : Hid _ := hw _ _ _ _ _ (outLays (w.heap.size + 1) z) HO.out B1.out (fun k hk => by omega)
  have HV0 : Hid (Row w1 w.heap.size 27 [.int .i64 0, .slice none 0 0]) := V0.below b1
  clear hw V0 V1 b0 b1 z1 HO
  subst hw1'
  by_cases hc : M.length ≤ 1024
  · have e1 : Fr.manyE M = 0 := if_pos hc
    have e2 : Fr.manyL M = M := if_pos hc
    have e3 : Fr.manyZ z M = z := if_pos hc
    rw [e1, e2, e3]
    clear e1 e2 e3
    go_enter Try.func40, Try.ntmps40
    go_wp2_with fail
    refine Calls.mono HC.out ?_
    rintro e w2 ⟨rfl, S2, hj2, ht2⟩
    have HT : Hid (Below w.heap.size w w2) := B1.out.trans (ht2.below B1.out.size (fun k hk => by omega))
    have HV2 : Hid (Row w2 w.heap.size 27 [.int .i64 0, .slice none 0 0]) := ht2.row HV0.out (fun h => by omega)
    obtain ⟨v2, V2, O2, -⟩ := hj2.ex
    rw [hM] at O2
    obtain ⟨a2, c2, rfl, -, -⟩ := O2.slice
    obtain ⟨k2, k3⟩ := V2.two
    have HO2 : Hid (OwnS _ _ _ _ _) := O2
    obtain ⟨q0, q1⟩ := HV2.out.two
    have q2 := HV2.out.frozen 0
    have q3 := HV2.out.frozen 1
    clear hj2 ht2 V2 O2
    go_wp2
    refine st_ret HV2.out HT.out (Nat.le_refl _) _ _ _ rfl rfl rfl Try.underlying27 rfl (by kernel_rfl) ?_
    intro w' K' B'
    exact ⟨_, rfl, (HO2.out.kept K' (by omega)).mono (by omega), B'⟩
  · have e1 : Fr.manyE M = 51 := if_neg hc
    have e2 : Fr.manyL M = [] := if_neg hc
    have e3 : Fr.manyZ z M = 0 := if_neg hc
    rw [e1, e2, e3]
    clear e1 e2 e3
    go_enter Try.func40, Try.ntmps40
    go_wp2_with fail
    refine Calls.mono HC.out ?_
    rintro e w2 ⟨rfl, S2, hj2, ht2⟩
    have HT : Hid (Below w.heap.size w w2) := B1.out.trans (ht2.below B1.out.size (fun k hk => by omega))
    have HV2 : Hid (Row w2 w.heap.size 27 [.int .i64 0, .slice none 0 0]) := ht2.row HV0.out (fun h => by omega)
    obtain ⟨v2, V2, O2, -⟩ := hj2.ex
    rw [hM] at O2
    obtain ⟨a2, c2, rfl, -, -⟩ := O2.slice
    obtain ⟨k2, k3⟩ := V2.two
    have HO2 : Hid (OwnS _ _ _ _ _) := O2
    obtain ⟨q0, q1⟩ := HV2.out.two
    have q2 := HV2.out.frozen 0
    have q3 := HV2.out.frozen 1
    clear hj2 ht2 V2 O2
    go_wp2
    refine st_ret HV2.out HT.out (Nat.le_refl _) _ _ _ rfl rfl rfl Try.underlying27 rfl (by kernel_rfl) ?_
    intro w' K' B'
    exact ⟨_, rfl, OwnS.nil _ _ _, B'⟩

end Go.Proofs.Ytbbjbajdoekheaa
