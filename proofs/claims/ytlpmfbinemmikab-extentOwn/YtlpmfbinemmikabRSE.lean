/-
  A list of extents of the call's own, spoilt: what stays. Conditions: those that the contract names.
-/
import Derived.Test.YtlpmfbinemmikabXA
namespace Go.Proofs.Ytlpmfbinemmikab
open Go.RowKit
set_option linter.unusedVariables false

set_option maxHeartbeats 2000000 in
theorem spoilExts_u (w : World) (base : Nat) (a : Option Addr) (n c : Nat) (l : List Ext) (hO : OwnE 24 w base (.slice a n c) l) (hn : l.length ≤ 5864062014634) :
    Calls Try.prog 12 #[.slice a n c] w fun e w' => e = .returned (.tuple #[]) ∧ Kept (fun k => (Value.slice a n c).ownBlock ≠ some k) w w' := by
  rcases hO.row.2 with ⟨e1, e2⟩ | ⟨g, cap, cur, e1, g1, g2, g3, g4, g5, g6⟩
  · simp only [Value.slice.injEq] at e1
    obtain ⟨rfl, rfl, rfl⟩ := e1
    clear hO e2 hn
    go_enter Try.func12, Try.ntmps12
    go_wp2
    go_loopw [2] (fun i wr => i = .int .i64 0 ∧ wr = w) (fun _ _ => 0)
    case atStart => exact ⟨rfl, rfl⟩
    case round =>
      obtain ⟨rfl, rfl⟩ := hrel
      go_wp2
      go_end0
      exact ⟨rfl, Kept.refl _ _⟩
  · simp only [Value.slice.injEq] at e1
    obtain ⟨rfl, rfl, rfl⟩ := e1
    have V : Hid (∃ xs : List Value, xs.length = c * 3 ∧ Row w g 24 xs) := ⟨cur.toList, by simp [g5], ⟨by simpa using g2⟩⟩
    clear hO g1 g2 g5 g6
    go_enter Try.func12, Try.ntmps12
    go_wp2
    go_loopw [2] (fun i wr => ∃ j : Nat, j ≤ l.length ∧ i = .int .i64 j ∧ Hid (∃ xs : List Value, xs.length = c * 3 ∧ Row wr g 24 xs) ∧ Hid (Kept (fun k => (Value.slice (some ⟨g, 0, none⟩) l.length c).ownBlock ≠ some k) w wr)) (fun i _ => l.length - (intOf i).toNat)
    case atStart => exact ⟨0, Nat.zero_le _, rfl, V, Kept.refl _ _⟩
    case round =>
      obtain ⟨j, hj, rfl, HV, HK⟩ := hrel
      by_cases hlt : j < l.length
      · obtain ⟨xs, hxl, V1⟩ := HV.out
        obtain ⟨u0, h0⟩ : ∃ u, xs[j * 3]? = some u := ⟨_, List.getElem?_eq_getElem (by omega)⟩
        obtain ⟨u1, h1⟩ : ∃ u, xs[j * 3 + 1]? = some u := ⟨_, List.getElem?_eq_getElem (by omega)⟩
        obtain ⟨u2, h2⟩ : ∃ u, xs[j * 3 + 2]? = some u := ⟨_, List.getElem?_eq_getElem (by omega)⟩
        have k0 := V1.cell h0
        have k1 := V1.cell h1
        have k2 := V1.cell h2
        have f0 := V1.frozen (j * 3)
        have f1 := V1.frozen (j * 3 + 1)
        have f2 := V1.frozen (j * 3 + 2)
        have HV2 : Hid (∃ ys : List Value, ys.length = c * 3 ∧ Row (((wr.setCell ⟨g, j * 3, none⟩ (.int .i64 (-1))).setCell ⟨g, j * 3 + 1, none⟩ (.int .i64 (-1))).setCell ⟨g, j * 3 + 2, none⟩ (.int .i64 (-1))) g 24 ys) :=
          ⟨_, by simp [hxl], ((V1.set (j * 3) (.int .i64 (-1))).set (j * 3 + 1) (.int .i64 (-1))).set (j * 3 + 2) (.int .i64 (-1))⟩
        have HK2 : Hid (Kept (fun k => (Value.slice (some ⟨g, 0, none⟩) l.length c).ownBlock ≠ some k) w (((wr.setCell ⟨g, j * 3, none⟩ (.int .i64 (-1))).setCell ⟨g, j * 3 + 1, none⟩ (.int .i64 (-1))).setCell ⟨g, j * 3 + 2, none⟩ (.int .i64 (-1)))) :=
          ((HK.out.setCell (p := ⟨g, j * 3, none⟩) (fun h => h rfl) _).setCell (p := ⟨g, j * 3 + 1, none⟩) (fun h => h rfl) _).setCell (p := ⟨g, j * 3 + 2, none⟩) (fun h => h rfl) _
        have hjz : (j : Int) < (l.length : Int) := by omega
        clear HV HK V1 h0 h1 h2 hxl
        go_wp2
        go_roundw
        case rel => exact ⟨j + 1, by omega, by go_num, HV2, HK2⟩
        case measure => simp [intOf]; omega
      · have hjz : ¬ (j : Int) < (l.length : Int) := by omega
        go_wp2
        go_end0
        exact ⟨rfl, HK.out⟩

end Go.Proofs.Ytlpmfbinemmikab
