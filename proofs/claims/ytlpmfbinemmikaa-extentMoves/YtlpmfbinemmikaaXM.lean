/-
  The landed extent: the map of what is written. Conditions: those that each contract names.
-/
import Derived.Test.YtlpmfbinemmikaaXK
namespace Go.Proofs.Ytlpmfbinemmikaa
open Go.RowKit
set_option linter.unusedVariables false

/-- What is told of a map that has been made: too many extents are none. -/
def Ex.bareE (m : List Ext) : Int := if m.length ≤ 1024 then 0 else 51
def Ex.bareL (m : List Ext) : List Ext := if m.length ≤ 1024 then m else []

/-- A function that lays these pieces, by whatever function it is handed. -/
def Writes (f : Nat) (bs : Array Value) (w : World) (ps : List Ext) : Prop :=
  ∀ (g : Nat) (cs : Array Value) (J : List Ext → (Nat → Prop) → World → Prop) (S : Nat → Prop) (w1 : World), Layer g cs id J → J [] S w1 → Below w.heap.size w w1 → (∀ k, S k → w.heap.size ≤ k) →
    Calls Try.prog f (#[.func (.func g) #[] cs] ++ bs) w1 fun e w2 => e = .returned (.tuple #[]) ∧ ∃ S', J ps S' w2 ∧ Turns S S' w1 w2

set_option maxHeartbeats 2000000 in
theorem laid_u (w : World) (f : Nat) (bs : Array Value) (eg : ∀ args w, (callFunc f args).run Try.prog w = .ok (.enter f args) w) (ps : List Ext) (hB : Ex.Bits ps) (hw : Writes f bs w ps) :
    Calls Try.prog 37 #[.func (.func f) #[] bs] w fun e w' => ∃ b, e = .returned (.tuple #[b, .int .i64 (Ex.bareE (Ex.addAll [] ps))]) ∧ OwnE 24 w' w.heap.size b (Ex.bareL (Ex.addAll [] ps)) ∧ Below w.heap.size w w' := by
  obtain ⟨w0, hw0, V0, b0, z0⟩ := boxedRow w 22 [.slice none 0 0]
  have HO : Hid (OutBox w.heap.size [] (fun k => k = w.heap.size) w0) := ⟨_, V0, OwnE.nil _ _ _, fun k => by simp [Value.ownBlock]⟩
  have HC : Hid _ := hw _ _ _ _ _ (outLayer w.heap.size) HO.out b0 (fun k hk => by omega)
  have HB0 : Hid (Below w.heap.size w w0) := b0
  have HL : Hid _ := hB.pieces.count
  clear hw V0 b0 z0 HO hB
  by_cases hc : (Ex.addAll [] ps).length ≤ 1024
  · have e1 : Ex.bareE (Ex.addAll [] ps) = 0 := if_pos hc
    have e2 : Ex.bareL (Ex.addAll [] ps) = Ex.addAll [] ps := if_pos hc
    rw [e1, e2]
    clear e1 e2
    go_enter Try.func37, Try.ntmps37
    go_wp2_with fail
    refine Calls.mono HC.out ?_
    rintro e w2 ⟨rfl, S2, hj2, ht2⟩
    have HT : Hid (Below w.heap.size w w2) := HB0.out.trans (ht2.below HB0.out.size (fun k hk => by omega))
    obtain ⟨v2, V2, O2, -⟩ := hj2.ex
    obtain ⟨a2, c2, rfl, -, -⟩ := O2.slice
    have k2 := V2.cell (j := 0) rfl
    have HO2 : Hid (OwnE _ _ _ _ _) := O2
    clear hj2 ht2 V2 O2
    go_wp2
    go_ret2
    exact ⟨_, rfl, HO2.out.mono (Nat.le_succ _), HT.out⟩
  · have e1 : Ex.bareE (Ex.addAll [] ps) = 51 := if_neg hc
    have e2 : Ex.bareL (Ex.addAll [] ps) = [] := if_neg hc
    rw [e1, e2]
    clear e1 e2
    go_enter Try.func37, Try.ntmps37
    go_wp2_with fail
    refine Calls.mono HC.out ?_
    rintro e w2 ⟨rfl, S2, hj2, ht2⟩
    have HT : Hid (Below w.heap.size w w2) := HB0.out.trans (ht2.below HB0.out.size (fun k hk => by omega))
    obtain ⟨v2, V2, O2, -⟩ := hj2.ex
    obtain ⟨a2, c2, rfl, -, -⟩ := O2.slice
    have k2 := V2.cell (j := 0) rfl
    have HO2 : Hid (OwnE _ _ _ _ _) := O2
    clear hj2 ht2 V2 O2
    go_wp2
    go_ret2
    exact ⟨_, rfl, OwnE.nil _ _ _, HT.out⟩

end Go.Proofs.Ytlpmfbinemmikaa
