/-
  The contract of Unpack. Conditions: those that each contract names.
-/
import Derived.Test.YtdgnkpmjjapmpaaONum
import Derived.Test.YtdgnkpmjjapmpaaONums
import Derived.Test.YtdgnkpmjjapmpaaSpec3
namespace Go.Proofs.Ytdgnkpmjjapmpaa
open Go.RowKit
set_option linter.unusedVariables false

set_option maxHeartbeats 400000 in
theorem unpack_count (w : World) (wa ba : Option Addr) (n wc m bc : Nat) (hn : n ≤ maxLen) (h : 64 < n) :
    Calls Try.prog 34 #[.slice wa n wc, .slice ba m bc] w fun e w' => e = .returned (.tuple #[.slice none 0 0, .int .i64 3]) ∧ w = w' := by
  unfold maxLen at hn
  go_enter Try.func34, Try.ntmps34
  go_wp2
  go_ret2
  exact ⟨rfl, rfl⟩

set_option maxHeartbeats 800000 in
theorem unpack_in (w : World) (wa ba : Option Addr) (n wc m bc : Nat) (W : List Int) (l : List UInt8) (hn : n ≤ 64) (hm : m ≤ 140737488355328) (hW : IsN .i64 w wa n W) (hB : IsB w ba m l) :
    Calls Try.prog 34 #[.slice wa n wc, .slice ba m bc] w fun e w' => ∃ a len c, e = .returned (.tuple #[.slice a len c, .int .i64 (Oct.unpackE W l)]) ∧
      w'.ownsRow w.heap.size 60 1 (.slice a len c) len (numCells (Oct.unpackL W l)) ∧ Below w.heap.size w w' := by
  have hWl := hW.1
  have hBl := hB.1
  have HBl : Hid (l.length = m) := hBl
  have HW : Hid (IsN .i64 w wa n W) := hW
  clear hBl hW
  go_enter Try.func34, Try.ntmps34
  go_wp2
  go_loop [6, 20] (fun t i => ∃ (k q : Nat), k ≤ n ∧ i = .int .i64 k ∧ t = .int .i64 q ∧ Oct.allOk (W.take k) = true ∧ q = Oct.total (W.take k) ∧ q ≤ 8 * k)
    (fun _ i => n - (intOf i).toNat)
  case atStart => exact ⟨0, 0, Nat.zero_le _, rfl, rfl, rfl, rfl, by omega⟩
  case round =>
    obtain ⟨k, q, hk, rfl, rfl, hok, hq, hq8⟩ := hrel
    have HOK : Hid _ := hok
    have HQ : Hid _ := hq
    clear hok hq
    by_cases hlt : k < n
    · have hkW : k < W.length := by omega
      obtain ⟨bw, ow, rfl, _, hcw⟩ := IsN.place HW.out (by omega)
      have d1 := hcw k hkW
      clear hcw
      generalize hx : W[k] = x at d1
      have HX : Hid _ := hx
      clear hx
      by_cases he : 1 ≤ x ∧ x ≤ 8
      · have he2 : decide (1 ≤ x ∧ x ≤ 8) = true := by simpa using he
        obtain ⟨z1, z2⟩ := he
        go_wp2_with (go_at_call 49; refine (isSize_any _ _).mono ?_; rintro e w' ⟨rfl, rfl⟩)
        go_round
        case rel =>
          refine ⟨k + 1, q + x.toNat, by omega, by go_num, ?_, Oct.ok_next hkW HOK.out (by rw [HX.out]; simpa [Oct.sizeOk] using ⟨z1, z2⟩), by rw [Oct.total_next hkW, HX.out, HQ.out], by omega⟩
          have : ((q + x.toNat : Nat) : Int) = (q : Int) + x := by omega
          rw [this]
        case measure => simp [intOf]; omega
      · have he2 : decide (1 ≤ x ∧ x ≤ 8) = false := by simpa using he
        go_wp2_with (go_at_call 49; refine (isSize_any _ _).mono ?_; rintro e w' ⟨rfl, rfl⟩)
        go_ret2
        obtain ⟨e1, e2⟩ := Oct.unpackE_arg (l := l) (show W.length ≤ 64 by omega) (Oct.ok_stop hkW (by rw [HX.out]; simpa [Oct.sizeOk] using he))
        exact ⟨none, 0, 0, by rw [e1]; rfl, by rw [e2]; exact own_nums_nil _ _, Below.refl _ _⟩
    · have e : k = n := by omega
      subst e
      have htk : W.take k = W := List.take_of_length_le (by omega)
      have h0 := HOK.out
      have h1 := HQ.out
      rw [htk] at h0 h1
      have H0 : Hid _ := h0
      have H1 : Hid _ := h1
      clear htk h0 h1 HOK HQ
      obtain ⟨i0, hi, hz0, hz1, hz2⟩ := info_parts info_u64
      go_wp2_with (first
        | (at_make; refine wpList_make_own _ rfl _ _ 57 rfl (w.heap.size + 2) 60 i0 (.int .u64 0) 1 Try.underlying57 hi hz0 hz1 _ _ _ k rfl rfl rfl ?b2 ?b3 ?b4 ?_)
        | go_in)
      case b2 => omega
      case b3 => unfold maxLen; omega
      intro w0 hown0 hgrow0
      have hb0 : Below (w.heap.size + 2) ((w.alloc (.cells #[.slice ba m bc] 24)).alloc (.cells #[.int .i64 0] 3)) w0 := (Below.refl _ _).grown hgrow0 (by simp) (fun k h => by cases h)
      have hc0 : w0.cell? ⟨w.heap.size + 1, 0, none⟩ = some (.int .i64 0) := by rw [hb0.cell (by simp)]; simp
      have hf0 : w0.frozen? ⟨w.heap.size + 1, 0, none⟩ = false := by rw [hb0.frozen (by simp)]; simp
      have hd0 : w0.cell? ⟨w.heap.size, 0, none⟩ = some (.slice ba m bc) := by rw [hb0.cell (by simp)]; simp
      have hbel0 : Below w.heap.size w w0 := (((Below.refl _ _).alloc (Nat.le_refl _) _).alloc (by simp) _).trans (hb0.mono (by omega))
      have hsz0 : w.heap.size + 2 ≤ w0.heap.size := by have := hb0.size; simpa using this
      clear hb0 hgrow0
      go_wp2
      go_loopw [10, 38] (fun out i wr => ∃ (j p : Nat), j ≤ k ∧ i = .int .i64 j ∧ p = Oct.total (W.take j) ∧ p ≤ m ∧ wr.ownsRow (w.heap.size + 2) 60 1 out j (numCells (Oct.nums (W.take j) l 0)) ∧
          wr.cell? ⟨w.heap.size + 1, 0, none⟩ = some (.int .i64 p) ∧ wr.frozen? ⟨w.heap.size + 1, 0, none⟩ = false ∧ wr.cell? ⟨w.heap.size, 0, none⟩ = some (.slice ba m bc) ∧ w.heap.size + 2 ≤ wr.heap.size ∧ Below w.heap.size w wr)
        (fun _ i _ => k - (intOf i).toNat)
      case atStart => exact ⟨0, 0, Nat.zero_le _, rfl, rfl, Nat.zero_le _, hown0, hc0, hf0, hd0, hsz0, hbel0⟩
      case round =>
        obtain ⟨j, p, hj, rfl, hp, hpm, hown, hc, hf, hd, hsz, hbel⟩ := hrel
        have HP : Hid _ := hp
        clear hp hown0 hc0 hf0 hd0 hsz0 hbel0
        obtain ⟨b, d, rfl, -⟩ := owns_nums hown
        by_cases hjk : j < k
        · have hjW : j < W.length := by omega
          obtain ⟨bw, ow, rfl, hbw, hcw⟩ := IsN.place HW.out (by omega)
          have c1 := hcw j hjW
          have d1 := (hbel.cell (World.block_lt_of_cell? _ _ c1)).trans c1
          have hxo := Oct.ok_at hjW H0.out
          clear hcw c1
          generalize hx : W[j] = x at d1 hxo
          have HX : Hid _ := hx
          clear hx
          have hxb : 1 ≤ x ∧ x ≤ 8 := by simpa [Oct.sizeOk] using hxo
          obtain ⟨s, rfl⟩ := Int.eq_ofNat_of_zero_le (show 0 ≤ x by omega)
          have hs1 : 1 ≤ s := by omega
          have hs2 : s ≤ 8 := by omega
          clear hxo hxb
          by_cases hfit : p + s ≤ m
          · go_wp2_with fail
            refine (next_ok wr ba m bc l p s _ rfl _ _ hs1 hs2 (by unfold maxLen; omega) (hB.below hbel) hc hf hd hfit).mono ?_
            rintro e w1 ⟨rfl, hw1⟩
            obtain ⟨hc1, hf1, hd1, hz1', ho1, hb1⟩ := after_set hw1 hc hf hd hown hbel
            clear hw1 hc hf hd hown hbel d1
            go_wp2_with (at_builtin; refine wpList_append_own _ rfl _ _ 57 rfl (w.heap.size + 2) 60 i0 (.int .u64 0) 1 8 Try.underlying57 hi hz0 hz1 hz2 rfl (by decide) _ j _ rfl (ho1.alloc _) ⟨w1.heap.size, 0, none⟩ 1 1 [.int .u64 (Oct.num (Oct.cut l p s) : Nat)] rfl rfl (cell_one_new _ _ _) (by intro u hu; simp at hu; subst hu; rfl) (by unfold maxLen; omega) (by omega) (by simp; omega) ?_)
            intro v' w2 ho2 hg2 _
            have hbb : Below (w.heap.size + 2) w1 w2 := ((Below.refl _ _).alloc (by omega) _).grown hg2 (by simp; omega) (own_base ho1)
            have hc2 : w2.cell? ⟨w.heap.size + 1, 0, none⟩ = some (.int .i64 ((p + s : Nat) : Int)) := by rw [hbb.cell (by simp)]; exact hc1
            have hf2 : w2.frozen? ⟨w.heap.size + 1, 0, none⟩ = false := by rw [hbb.frozen (by simp)]; exact hf1
            have hd2 : w2.cell? ⟨w.heap.size, 0, none⟩ = some (.slice ba m bc) := by rw [hbb.cell (by simp)]; exact hd1
            have hz2' : w.heap.size + 2 ≤ w2.heap.size := by have := hbb.size; omega
            have hb2 : Below w.heap.size w w2 := hb1.trans (hbb.mono (by omega))
            have ho3 : w2.ownsRow (w.heap.size + 2) 60 1 v' (j + 1) (numCells (Oct.nums (W.take (j + 1)) l 0)) := by
              rw [Oct.nums_next hjW, HX.out, Int.toNat_natCast, ← HP.out]
              simpa [numCells] using ho2
            clear hc1 hf1 hd1 ho1 hb1 ho2 hg2 hbb
            go_wp2
            go_roundw
            case rel => exact ⟨j + 1, p + s, by omega, by go_num, by rw [Oct.total_next hjW, HX.out, Int.toNat_natCast, HP.out], hfit, ho3, hc2, hf2, hd2, hz2', hb2⟩
            case measure => simp [intOf]; omega
          · go_wp2_with (go_at_call 55; refine (next_no wr ba m bc p s _ rfl _ _ hs1 hs2 (by unfold maxLen; omega) (by unfold maxLen; omega) hc hd (by omega)).mono ?_; rintro e w1 ⟨rfl, rfl⟩)
            go_ret2
            have h1 := Oct.total_next hjW
            have h2 := Oct.total_le (W := W) (j + 1)
            have h3 := HP.out
            rw [HX.out, Int.toNat_natCast] at h1
            obtain ⟨e1, e2⟩ := Oct.unpackE_short (l := l) (show W.length ≤ 64 by omega) H0.out (by rw [HBl.out]; omega)
            exact ⟨none, 0, 0, by rw [e1]; rfl, by rw [e2]; exact own_nums_nil _ _, hbel⟩
        · have e : j = k := by omega
          subst e
          have htk : W.take j = W := List.take_of_length_le (by omega)
          have HT : Hid _ := htk
          clear htk
          by_cases hqm : q < m
          · go_wp2
            go_ret2
            obtain ⟨e1, e2⟩ := Oct.unpackE_tail (l := l) (show W.length ≤ 64 by omega) H0.out (by rw [HBl.out, ← H1.out]; omega)
            exact ⟨none, 0, 0, by rw [e1]; rfl, by rw [e2]; exact own_nums_nil _ _, hbel⟩
          · go_wp2
            go_ret2
            have h3 := HP.out
            rw [HT.out, ← H1.out] at h3
            obtain ⟨e1, e2⟩ := Oct.unpackE_ok (l := l) (show W.length ≤ 64 by omega) H0.out (by rw [HBl.out, ← H1.out]; omega)
            rw [HT.out] at hown
            exact ⟨b, j, d, by rw [e1]; rfl, by rw [e2]; exact owns_mono hown (by omega), hbel⟩

theorem unpack_u (w : World) (wa ba : Option Addr) (n wc m bc : Nat) (W : List Int) (l : List UInt8) (hn : n ≤ maxLen) (hm : m ≤ 140737488355328) (hW : IsN .i64 w wa n W) (hB : IsB w ba m l) :
    Calls Try.prog 34 #[.slice wa n wc, .slice ba m bc] w fun e w' => ∃ a len c, e = .returned (.tuple #[.slice a len c, .int .i64 (Oct.unpackE W l)]) ∧
      w'.ownsRow w.heap.size 60 1 (.slice a len c) len (numCells (Oct.unpackL W l)) ∧ Below w.heap.size w w' := by
  have hWl := hW.1
  by_cases h : 64 < n
  · obtain ⟨e1, e2⟩ := Oct.unpackE_count (W := W) (l := l) (by omega)
    rw [e1, e2]
    refine (unpack_count w wa ba n wc m bc hn h).mono ?_
    rintro e w' ⟨rfl, rfl⟩
    exact ⟨none, 0, 0, rfl, own_nums_nil _ _, Below.refl _ _⟩
  · exact unpack_in w wa ba n wc m bc W l (by omega) hm hW hB

end Go.Proofs.Ytdgnkpmjjapmpaa
