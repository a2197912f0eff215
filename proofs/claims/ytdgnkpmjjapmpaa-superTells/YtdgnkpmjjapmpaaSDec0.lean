/-
  The contracts of what the program's Decode of a superblock calls: isNoZero, IndexFunc, ContainsFunc, CutPrefix. Conditions: those that each contract names.
-/
import Derived.Test.YtdgnkpmjjapmpaaSEnc
import Derived.Test.YtdgnkpmjjapmpaaOUnpack
namespace Go.Proofs.Ytdgnkpmjjapmpaa
open Go.RowKit
set_option linter.unusedVariables false

/-- All octets are zero. -/
def Zeros (l : List UInt8) : Prop := ∀ j (h : j < l.length), l[j] = 0

theorem isNoZero_u (w : World) (x : UInt8) (r : Bool) (hr : ((x.toNat : Int) != 0) = r) :
    Calls Try.prog 33 #[.int .u8 (x.toNat : Int)] w fun e w' => e = .returned (.bool r) ∧ w = w' := by
  subst hr
  go_enter Try.func33, Try.ntmps33
  go_wp2
  go_ret
  exact ⟨rfl, rfl⟩

set_option maxHeartbeats 800000 in
theorem indexNoZero_u (w : World) (b o n c : Nat) (l : List UInt8) (hn : n ≤ 1048576) (hB : IsB w (some ⟨b, o, none⟩) n l) :
    Calls Try.prog 48 #[.slice (some ⟨b, o, none⟩) n c, .func (.func 33) #[] #[]] w fun e w' => ∃ r : Int, e = .returned (.int .i64 r) ∧ (0 ≤ r ↔ ¬ Zeros l) ∧ w = w' := by
  have HN : Hid _ := hB.1
  have HB : Hid (IsB _ _ _ _) := hB
  clear hB
  go_enter Try.func48, Try.ntmps48
  go_wp2
  go_loop [8] (fun i => ∃ k : Nat, k ≤ n ∧ i = .int .i64 k ∧ Hid (∀ j (h : j < l.length), j < k → l[j] = 0)) (fun i => n - (intOf i).toNat)
  case atStart => exact ⟨0, Nat.zero_le _, rfl, (fun j _ h => by omega)⟩
  case round =>
    obtain ⟨k, hk, rfl, HK⟩ := hrel
    by_cases hlt : k < n
    · have hkl : k < l.length := by rw [HN.out]; exact hlt
      have hc := HB.out.2.2 _ rfl k hkl
      rw [Addr.add_lit] at hc
      by_cases hz : l[k] = 0
      · have HZ : Hid _ := hz
        have hr : (((l[k]).toNat : Int) != 0) = false := by rw [hz]; rfl
        clear hz
        go_wp2_with (go_at_call 33; refine (isNoZero_u _ _ _ hr).mono ?_; rintro e w1 ⟨rfl, rfl⟩)
        go_round
        case rel => exact ⟨k + 1, by omega, by go_num, fun j hj h => by
            by_cases ejk : j = k
            · subst ejk; exact HZ.out
            · exact HK.out j hj (by omega)⟩
        case measure => simp [intOf]; omega
      · have HZ : Hid _ := hz
        have hr : (((l[k]).toNat : Int) != 0) = true := bne_iff_ne.2 (fun h => hz (UInt8.toNat_inj.1 (by simpa using h)))
        clear hz
        go_wp2_with (go_at_call 33; refine (isNoZero_u _ _ _ hr).mono ?_; rintro e w1 ⟨rfl, rfl⟩)
        go_ret
        exact ⟨k, rfl, ⟨fun _ h => HZ.out (h k hkl), fun _ => by omega⟩, rfl⟩
    · obtain rfl : k = n := by omega
      go_wp2
      go_ret
      exact ⟨-1, rfl, ⟨fun h => by omega, fun h => absurd (fun j hj => HK.out j hj (by rw [HN.out] at hj; exact hj)) h⟩, rfl⟩

theorem anyNoZero_u (w : World) (b o n c : Nat) (l : List UInt8) (hn : n ≤ 1048576) (hB : IsB w (some ⟨b, o, none⟩) n l) (r : Bool) (hr : (!l.all (· == 0)) = r) :
    Calls Try.prog 32 #[.slice (some ⟨b, o, none⟩) n c, .func (.func 33) #[] #[]] w fun e w' => e = .returned (.bool r) ∧ w = w' := by
  have HR : Hid (r = true ↔ ¬ Zeros l) := by
    unfold Hid
    rw [← hr, Bool.not_eq_true', ← Bool.not_eq_true, List.all_eq_true]
    constructor
    · intro h g
      exact h (fun x hx => by obtain ⟨j, hj, rfl⟩ := List.mem_iff_getElem.1 hx; exact beq_iff_eq.2 (g j hj))
    · intro h g
      exact h (fun j hj => beq_iff_eq.1 (g _ (List.getElem_mem hj)))
  clear hr
  have HB : Hid (IsB _ _ _ _) := hB
  clear hB
  go_enter Try.func32, Try.ntmps32
  go_wp2_with (go_at_call 48; refine (indexNoZero_u _ b o n c l hn HB.out).mono ?_; rintro e w1 ⟨k, rfl, hk, rfl⟩; have HK : Hid _ := hk; clear hk)
  go_ret
  refine ⟨?_, rfl⟩
  have : decide (0 ≤ k) = r := by rw [Bool.eq_iff_iff, decide_eq_true_eq, HK.out, HR.out]
  rw [← this]
  rfl

theorem cutPrefix_u (w : World) (b o n c : Nat) (pa : Option Addr) (m d : Nat) (l p : List UInt8) (hn : n ≤ 1048576) (hc : n ≤ c) (hm : m < n) (h0 : 0 < m) (hB : IsB w (some ⟨b, o, none⟩) n l) (hP : IsB w pa m p) (r : Bool) (hr : (l.take m == p) = r) :
    Calls Try.prog 31 #[.slice (some ⟨b, o, none⟩) n c, .slice pa m d] w fun e w' => e = .returned (.tuple #[if r then .slice (some ⟨b, o + m, none⟩) (n - m) (c - m) else .slice (some ⟨b, o, none⟩) n c, .bool r]) ∧ w = w' := by
  have hs1 := conv_bytes w (some ⟨b, o, none⟩) m c _ (hB.head m (by omega) (by omega))
  have hs2 := conv_bytes w pa m d _ hP
  have hcm : ¬ c = m := by omega
  clear hB hP
  cases r
  · go_enter Try.func31, Try.ntmps31
    go_wp2
    go_ret2
    exact ⟨rfl, rfl⟩
  · go_enter Try.func31, Try.ntmps31
    go_wp2
    go_ret2
    exact ⟨rfl, rfl⟩

end Go.Proofs.Ytdgnkpmjjapmpaa
