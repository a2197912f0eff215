/-
  The contract of the document's own answer for Unpack. Conditions: those that each contract names.
-/
import Derived.Test.YtdgnkpmjjapmpaaOUnpack
import Derived.Test.YtdgnkpmjjapmpaaORefs
namespace Go.Proofs.Ytdgnkpmjjapmpaa
open Go.RowKit
set_option linter.unusedVariables false

set_option maxHeartbeats 400000 in
theorem refUnpack_count (w : World) (wa ba : Option Addr) (n wc m bc : Nat) (hn : n ≤ maxLen) (h : 64 < n) :
    Calls Try.prog 37 #[.slice wa n wc, .slice ba m bc] w fun e w' => e = .returned (.tuple #[.slice none 0 0, .int .i64 3]) ∧ w = w' := by
  unfold maxLen at hn
  go_enter Try.func37, Try.ntmps37
  go_wp2
  go_ret2
  exact ⟨rfl, rfl⟩

set_option maxHeartbeats 1600000 in
theorem refUnpack_in (w : World) (wa ba : Option Addr) (n wc m bc : Nat) (W : List Int) (l : List UInt8) (hn : n ≤ 64) (hm : m ≤ 140737488355328) (hW : IsN .i64 w wa n W) (hB : IsB w ba m l) :
    Calls Try.prog 37 #[.slice wa n wc, .slice ba m bc] w fun e w' => ∃ a len c, e = .returned (.tuple #[.slice a len c, .int .i64 (Oct.unpackE W l)]) ∧
      w'.ownsRow w.heap.size 60 1 (.slice a len c) len (numCells (Oct.unpackL W l)) ∧ Below w.heap.size w w' := by
  have hWl := hW.1
  have hBl := hB.1
  have HBl : Hid (l.length = m) := hBl
  have HW : Hid (IsN .i64 w wa n W) := hW
  clear hBl hW
  go_enter Try.func37, Try.ntmps37
  go_wp2
  go_loop [6] (fun i => ∃ (k : Nat), k ≤ n ∧ i = .int .i64 k ∧ Oct.allOk (W.take k) = true)
    (fun i => n - (intOf i).toNat)
  case atStart => exact ⟨0, Nat.zero_le _, rfl, rfl⟩
  case round =>
    obtain ⟨k, hk, rfl, hok⟩ := hrel
    have HOK : Hid _ := hok
    clear hok
    by_cases hlt : k < n
    · have hkW : k < W.length := by omega
      obtain ⟨bw, ow, rfl, _, hcw⟩ := IsN.place HW.out (by omega)
      have d1 := hcw k hkW
      clear hcw
      generalize hx : W[k] = x at d1
      have HX : Hid _ := hx
      clear hx
      by_cases z1 : 1 ≤ x
      · by_cases z2 : x ≤ 8
        · go_wp2
          go_round
          case rel => exact ⟨k + 1, by omega, by go_num, Oct.ok_next hkW HOK.out (by rw [HX.out]; simpa [Oct.sizeOk] using ⟨z1, z2⟩)⟩
          case measure => simp [intOf]; omega
        · go_wp2
          go_ret2
          obtain ⟨e1, e2⟩ := Oct.unpackE_arg (l := l) (show W.length ≤ 64 by omega) (Oct.ok_stop hkW (by rw [HX.out]; simp [Oct.sizeOk]; omega))
          exact ⟨none, 0, 0, by rw [e1]; rfl, by rw [e2]; exact own_nums_nil _ _, Below.refl _ _⟩
      · go_wp2
        go_ret2
        obtain ⟨e1, e2⟩ := Oct.unpackE_arg (l := l) (show W.length ≤ 64 by omega) (Oct.ok_stop hkW (by rw [HX.out]; simp [Oct.sizeOk]; omega))
        exact ⟨none, 0, 0, by rw [e1]; rfl, by rw [e2]; exact own_nums_nil _ _, Below.refl _ _⟩
    · have e : k = n := by omega
      subst e
      have htk : W.take k = W := List.take_of_length_le (by omega)
      have h0 := HOK.out
      rw [htk] at h0
      have H0 : Hid _ := h0
      clear htk h0 HOK
      obtain ⟨i0, hi, hz0, hz1, hz2⟩ := info_parts info_u64
      go_wp2
      go_loopw [7, 8, 9] (fun out t i wr => ∃ (j p : Nat), j ≤ k ∧ i = .int .i64 j ∧ t = .int .i64 p ∧ p = Oct.total (W.take j) ∧ p ≤ m ∧ wr.ownsRow w.heap.size 60 1 out j (numCells (Oct.nums (W.take j) l 0)) ∧ Below w.heap.size w wr)
        (fun _ _ i _ => k - (intOf i).toNat)
      case atStart => exact ⟨0, 0, Nat.zero_le _, rfl, rfl, rfl, Nat.zero_le _, own_nums_nil _ _, Below.refl _ _⟩
      case round =>
        obtain ⟨j, p, hj, rfl, rfl, hp, hpm, hown, hbel⟩ := hrel
        have HP : Hid _ := hp
        clear hp
        have hsz := hbel.size
        obtain ⟨b, d, rfl, -⟩ := owns_nums hown
        by_cases hjk : j < k
        · have hjW : j < W.length := by omega
          obtain ⟨bw, ow, rfl, hbw, hcw⟩ := IsN.place HW.out (by omega)
          have c1 := hcw j hjW
          have d1 := (hbel.cell (World.block_lt_of_cell? _ _ c1)).trans c1
          have hxo := Oct.ok_at hjW H0.out
          clear hcw
          generalize hx : W[j] = x at c1 d1 hxo
          have HX : Hid _ := hx
          clear hx
          have hxb : 1 ≤ x ∧ x ≤ 8 := by simpa [Oct.sizeOk] using hxo
          obtain ⟨s, rfl⟩ := Int.eq_ofNat_of_zero_le (show 0 ≤ x by omega)
          have hs1 : 1 ≤ s := by omega
          have hs2 : s ≤ 8 := by omega
          clear hxo hxb
          by_cases hfit : p + s ≤ m
          · go_wp2_with fail
            refine (refGet_ok wr ba m bc l p s _ _ rfl rfl hs1 hs2 (by unfold maxLen; omega) (hB.below hbel) hfit).mono ?_
            rintro e w1 ⟨rfl, rfl⟩
            go_wp2_with (at_builtin; refine wpList_append_own _ rfl _ _ 57 rfl w.heap.size 60 i0 (.int .u64 0) 1 8 Try.underlying57 hi hz0 hz1 hz2 rfl (by decide) _ j _ rfl (hown.alloc _) ⟨wr.heap.size, 0, none⟩ 1 1 [.int .u64 (Oct.num (Oct.cut l p s) : Nat)] rfl rfl (cell_one_new _ _ _) (by intro u hu; simp at hu; subst hu; rfl) (by unfold maxLen; omega) (by omega) (by simp; omega) ?_)
            intro v' w2 ho2 hg2 _
            have hb2 : Below w.heap.size w w2 := (hbel.alloc hsz _).grown hg2 (by simp; omega) (own_base hown)
            have d2 := (hb2.cell (World.block_lt_of_cell? _ _ c1)).trans c1
            have ho3 : w2.ownsRow w.heap.size 60 1 v' (j + 1) (numCells (Oct.nums (W.take (j + 1)) l 0)) := by
              rw [Oct.nums_next hjW, HX.out, Int.toNat_natCast, ← HP.out]
              simpa [numCells] using ho2
            clear hown ho2 hg2 hbel d1 c1
            go_wp2
            go_roundw
            case rel => exact ⟨j + 1, p + s, by omega, by go_num, by go_num, by rw [Oct.total_next hjW, HX.out, Int.toNat_natCast, HP.out], hfit, ho3, hb2⟩
            case measure => simp [intOf]; omega
          · go_wp2_with (go_at_call 51; refine (refGet_short wr ba m bc p s _ _ rfl rfl hs1 hs2 (by unfold maxLen; omega) (by omega)).mono ?_; rintro e w1 ⟨rfl, rfl⟩)
            go_ret2
            have h1 := Oct.total_next hjW
            have h2 := Oct.total_le (W := W) (j + 1)
            have h3 := HP.out
            rw [HX.out, Int.toNat_natCast] at h1
            obtain ⟨e1, e2⟩ := Oct.unpackE_short (l := l) (show W.length ≤ 64 by omega) H0.out (by rw [HBl.out]; omega)
            exact ⟨none, 0, 0, by rw [e1]; rfl, by rw [e2]; exact own_nums_nil _ _, hbel⟩
        · have e : j = k := by omega
          subst e
          have htk : W.take j = W := List.take_of_length_le (by omega)
          have HT : Hid _ := htk
          clear htk
          by_cases hqm : p < m
          · go_wp2
            go_ret2
            have h3 := HP.out
            rw [HT.out] at h3
            obtain ⟨e1, e2⟩ := Oct.unpackE_tail (l := l) (show W.length ≤ 64 by omega) H0.out (by rw [HBl.out]; omega)
            exact ⟨none, 0, 0, by rw [e1]; rfl, by rw [e2]; exact own_nums_nil _ _, hbel⟩
          · go_wp2
            go_ret2
            have h3 := HP.out
            rw [HT.out] at h3
            obtain ⟨e1, e2⟩ := Oct.unpackE_ok (l := l) (show W.length ≤ 64 by omega) H0.out (by rw [HBl.out]; omega)
            rw [HT.out] at hown
            exact ⟨b, j, d, by rw [e1]; rfl, by rw [e2]; exact hown, hbel⟩

theorem refUnpack_u (w : World) (wa ba : Option Addr) (n wc m bc : Nat) (W : List Int) (l : List UInt8) (hn : n ≤ maxLen) (hm : m ≤ 140737488355328) (hW : IsN .i64 w wa n W) (hB : IsB w ba m l) :
    Calls Try.prog 37 #[.slice wa n wc, .slice ba m bc] w fun e w' => ∃ a len c, e = .returned (.tuple #[.slice a len c, .int .i64 (Oct.unpackE W l)]) ∧
      w'.ownsRow w.heap.size 60 1 (.slice a len c) len (numCells (Oct.unpackL W l)) ∧ Below w.heap.size w w' := by
  have hWl := hW.1
  by_cases h : 64 < n
  · obtain ⟨e1, e2⟩ := Oct.unpackE_count (W := W) (l := l) (by omega)
    rw [e1, e2]
    refine (refUnpack_count w wa ba n wc m bc hn h).mono ?_
    rintro e w' ⟨rfl, rfl⟩
    exact ⟨none, 0, 0, rfl, own_nums_nil _ _, Below.refl _ _⟩
  · exact refUnpack_in w wa ba n wc m bc W l (by omega) hm hW hB

end Go.Proofs.Ytdgnkpmjjapmpaa
