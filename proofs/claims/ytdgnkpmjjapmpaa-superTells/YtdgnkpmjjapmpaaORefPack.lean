/-
  The contract of the document's own answer for Pack. Conditions: those that each contract names.
-/
import Derived.Test.YtdgnkpmjjapmpaaOPack
import Derived.Test.YtdgnkpmjjapmpaaORefs
import Derived.Deep.RegionWith
import Derived.Deep.CutRange
namespace Go.Proofs.Ytdgnkpmjjapmpaa
open Go.RowKit
set_option linter.unusedVariables false

set_option maxHeartbeats 400000 in
theorem refPack_count (w : World) (wa va : Option Addr) (n wc m vc : Nat) (hn : n ≤ maxLen) (hm : m ≤ maxLen) (h : n ≠ m ∨ 64 < n) :
    Calls Try.prog 27 #[.slice wa n wc, .slice va m vc] w fun e w' => e = .returned (.tuple #[.slice none 0 0, .int .i64 3]) ∧ w = w' := by
  unfold maxLen at hn hm
  by_cases e : n = m
  · subst e
    have e1 : ((n : Int) != (n : Int)) = false := bne_self_eq_false _
    go_enter Try.func27, Try.ntmps27
    go_wp2
    go_ret2
    exact ⟨rfl, rfl⟩
  · have e1 : ((n : Int) != (m : Int)) = true := by rw [bne_iff_ne]; omega
    go_enter Try.func27, Try.ntmps27
    go_wp2
    go_ret2
    exact ⟨rfl, rfl⟩

set_option maxHeartbeats 800000 in
theorem refPack_in (w : World) (wa va : Option Addr) (n wc vc : Nat) (W : List Int) (V : List Nat) (hn : n ≤ 64) (hV64 : ∀ v ∈ V, v < 18446744073709551616) (hW : IsN .i64 w wa n W) (hV : IsN .u64 w va n (V.map fun (v : Nat) => (v : Int))) :
    Calls Try.prog 27 #[.slice wa n wc, .slice va n vc] w fun e w' => ∃ a len c, e = .returned (.tuple #[.slice a len c, .int .i64 (Oct.packE W V)]) ∧
      w'.ownsRow w.heap.size 5 1 (.slice a len c) len (cellsOf (Oct.packL W V)) ∧ Below w.heap.size w w' := by
  have hWl := hW.1
  have hVl : V.length = n := by have := hV.1; simpa using this
  have HE : Hid (Oct.packE W V = Oct.pairsE (W.zip V)) := Oct.packE_in (by omega) (by omega)
  have e1 : ((n : Int) != (n : Int)) = false := bne_self_eq_false _
  have hpk := Oct.flat_length ((W.zip V).take 0)
  clear hpk
  go_enter Try.func27, Try.ntmps27
  go_wp2
  go_loopw [6, 7] (fun out i wr => ∃ (k len : Nat), k ≤ n ∧ i = .int .i64 k ∧ Oct.pairsE ((W.zip V).take k) = 0 ∧ wr.ownsRow w.heap.size 5 1 out len (cellsOf (Oct.flat ((W.zip V).take k))) ∧ Below w.heap.size w wr)
    (fun _ i _ => n - (intOf i).toNat)
  case atStart => exact ⟨0, 0, Nat.zero_le _, rfl, rfl, own_nil _ _, Below.refl _ _⟩
  case round =>
    obtain ⟨k, len, hk, rfl, hok, hown, hbel⟩ := hrel
    have HOK : Hid _ := hok
    clear hok
    have hlen : len = (Oct.flat ((W.zip V).take k)).length := by have := hown.1; simpa [cellsOf] using this.symm
    have hl2 := Oct.flat_length ((W.zip V).take k)
    have hl3 : len ≤ 512 := by simp at hl2; omega
    clear hlen hl2
    by_cases hlt : k < n
    · have hkW : k < W.length := by omega
      have hkV : k < V.length := by omega
      obtain ⟨bw, ow, rfl, _, hcw⟩ := hW.place (by omega)
      obtain ⟨bv, ov, rfl, _, hcv⟩ := hV.place (by omega)
      have c1 := hcw k hkW
      have c2 := hcv k (by simpa using hkV)
      rw [List.getElem_map] at c2
      have d1 := (hbel.cell (World.block_lt_of_cell? _ _ c1)).trans c1
      have d2 := (hbel.cell (World.block_lt_of_cell? _ _ c2)).trans c2
      clear c1 c2 hcw hcv hW hV
      have hv64 := hV64 V[k] (List.getElem_mem hkV)
      generalize hx : W[k] = x at d1
      generalize hv : V[k] = v at d2 hv64
      have HX : Hid _ := hx
      have HV : Hid _ := hv
      clear hx hv
      have hz := hbel.size
      obtain ⟨b, d, rfl, -⟩ := owns_slice hown
      by_cases he : Oct.putE v x = 0
      · go_upto_region 7 with fail
        go_cut [8, 9] from 20 to 43 (fun sb se wx => ∃ xa xl xc, sb = .slice xa xl xc ∧ se = .int .i64 (Oct.putE v x) ∧ wx.ownsRow wr.heap.size 5 1 (.slice xa xl xc) xl (cellsOf (Oct.putL v x)) ∧ Below wr.heap.size wr wx)
        case first =>
          go_region_with (go_at_call 43; refine (refPut_u v x _ hv64).mono ?_; rintro e w2 ⟨xa, xl, xc, rfl, hx2, b2⟩)
          all_goals (try go_wp2_with fail)
          all_goals go_meet
          all_goals exact ⟨xa, xl, xc, rfl, by first | rfl | rw [he], hx2, ⟨b2.os, b2.tape, b2.output, b2.size, b2.block⟩⟩
        case rest =>
          obtain ⟨xa, xl, xc, rfl, rfl, hx2, b2⟩ := hcut
          rw [he]
          have hown2 := owns_below hown b2
          have hxl : xl ≤ 8 := by have h1 := hx2.1; have h2 := Oct.putL_length v x; simp [cellsOf] at h1; omega
          obtain ⟨hxB, _, hxn⟩ := owns_isB hx2
          have hz2 := b2.size
          have hbel2 := on hbel b2
          clear hown hx2 b2 hbel d1 d2
          have HXN : Hid _ := hxn
          clear hxn
          go_wp2_with (at_builtin; refine append_two rfl _ _ rfl w.heap.size _ len _ rfl hown2 _ xl xc _ rfl hxB HXN.out (by omega) (by omega) ?_)
          intro b3 d3 w3 hown3 hg3
          have hbel3 : Below w.heap.size w w3 := hbel2.grown hg3 (by omega) (own_base hown2)
          clear hown2 hg3 hbel2 hxB
          go_wp2
          go_roundw
          case rel =>
            refine ⟨k + 1, len + xl, by omega, by go_num, Oct.pairs_next hkW hkV HOK.out (by rw [HX.out, HV.out]; exact he), ?_, hbel3⟩
            rw [Oct.flat_next hkW hkV, HX.out, HV.out]
            exact hown3
          case measure => simp [intOf]; omega
      · have he2 : (Oct.putE v x != 0) = true := bne_iff_ne.2 he
        go_upto_region 7 with fail
        go_cut [8, 9] from 20 to 43 (fun sb se wx => ∃ xa xl xc, sb = .slice xa xl xc ∧ se = .int .i64 (Oct.putE v x) ∧ wx.ownsRow wr.heap.size 5 1 (.slice xa xl xc) xl (cellsOf (Oct.putL v x)) ∧ Below wr.heap.size wr wx)
        case first =>
          go_region_with (go_at_call 43; refine (refPut_u v x _ hv64).mono ?_; rintro e w2 ⟨xa, xl, xc, rfl, hx2, b2⟩)
          all_goals (try go_wp2_with fail)
          all_goals go_meet
          all_goals exact ⟨xa, xl, xc, rfl, by first | rfl | rw [he], hx2, ⟨b2.os, b2.tape, b2.output, b2.size, b2.block⟩⟩
        case rest =>
          obtain ⟨xa, xl, xc, rfl, rfl, hx2, b2⟩ := hcut
          go_wp2
          go_ret2
          have hst := Oct.pairs_stop hkW hkV HOK.out (by rw [HX.out, HV.out]; exact he)
          rw [HX.out, HV.out] at hst
          have hE : Oct.packE W V = Oct.putE v x := by rw [HE.out, hst]
          exact ⟨none, 0, 0, by rw [hE]; rfl, by rw [Oct.packL_other (by rw [hE]; exact he)]; exact own_nil _ _, on hbel b2⟩
    · have e : k = n := by omega
      subst e
      obtain ⟨b, d, rfl, -⟩ := owns_slice hown
      have htk : (W.zip V).take k = W.zip V := List.take_of_length_le (by simp; omega)
      have HT : Hid _ := htk
      clear htk
      go_wp2
      go_ret2
      have h0 := HOK.out
      rw [HT.out] at h0 hown
      exact ⟨b, len, d, by rw [HE.out, h0]; rfl, by rw [Oct.packL_in (by omega) (by omega) h0]; exact hown, hbel⟩

theorem refPack_u (w : World) (wa va : Option Addr) (n wc m vc : Nat) (W : List Int) (V : List Nat) (hn : n ≤ maxLen) (hm : m ≤ maxLen) (hV64 : ∀ v ∈ V, v < 18446744073709551616) (hW : IsN .i64 w wa n W) (hV : IsN .u64 w va m (V.map fun (v : Nat) => (v : Int))) :
    Calls Try.prog 27 #[.slice wa n wc, .slice va m vc] w fun e w' => ∃ a len c, e = .returned (.tuple #[.slice a len c, .int .i64 (Oct.packE W V)]) ∧
      w'.ownsRow w.heap.size 5 1 (.slice a len c) len (cellsOf (Oct.packL W V)) ∧ Below w.heap.size w w' := by
  have hWl := hW.1
  have hVl : V.length = m := by have := hV.1; simpa using this
  by_cases h : n ≠ m ∨ 64 < n
  · obtain ⟨e1, e2⟩ := Oct.packE_count (W := W) (V := V) (by omega)
    rw [e1, e2]
    refine (refPack_count w wa va n wc m vc hn hm h).mono ?_
    rintro e w' ⟨rfl, rfl⟩
    exact ⟨none, 0, 0, rfl, own_nil _ _, Below.refl _ _⟩
  · obtain rfl : n = m := by omega
    exact refPack_in w wa va n wc vc W V (by omega) hV64 hW hV

end Go.Proofs.Ytdgnkpmjjapmpaa
