/-
  The statement OctetsLists holds: for every lists of widths and numbers and every octets the law returns true and its arguments read as before. Conditions: none.
-/
import Derived.Test.YtomfplmkbdalhaaPack
import Derived.Test.YtomfplmkbdalhaaRefPack
import Derived.Test.YtomfplmkbdalhaaRefUnpack
import Derived.Test.YtomfplmkbdalhaaSameNums
namespace Go.Proofs.Ytomfplmkbdalhaa
open Go.ChangeShapes Go.WideShapes Go.ChangeAt Go.RowKit
open Go.ChangeMaps (open_string shut_string)
set_option linter.unusedVariables false

theorem owns_isN {w : World} {base n c : Nat} {a : Option Addr} {l : List Nat} (h : w.ownsRow base 22 1 (.slice a n c) n (numCells l)) : IsN .u64 w a n (l.map fun (v : Nat) => (v : Int)) ∧ n ≤ c ∧ (a = none → c = 0) ∧ n = l.length := by
  obtain ⟨a', c', e, h1, h2, h3, h4⟩ := owns_nums h
  cases e
  exact ⟨h4, h1, h3, h2⟩

theorem unpackL_length (W : List Int) (l : List UInt8) : (Oct.unpackL W l).length ≤ 64 := by
  by_cases h : Oct.unpackE W l = 0
  · rw [Oct.unpackL, if_pos h, Oct.nums_length]
    by_cases g : 64 < W.length
    · rw [(Oct.unpackE_count g).1] at h; omega
    · omega
  · rw [Oct.unpackL, if_neg h]; simp

set_option maxHeartbeats 1600000 in
theorem lists_in (wa va ba : Option Addr) (n wc m vc len cap : Nat) (W : List Int) (V : List Nat) (l : List UInt8) (w : World) (hn : n ≤ maxLen) (hm : m ≤ maxLen) (hV64 : ∀ v ∈ V, v < 18446744073709551616)
    (hW : IsN .i64 w wa n W) (hV : IsN .u64 w va m (V.map fun (v : Nat) => (v : Int))) (hB : IsB w ba len l) (hlen : len ≤ 140737488351232) (hnil : ba = none → cap = 0) :
    Calls Try.prog 4 #[.slice wa n wc, .slice va m vc, .slice ba len cap] w fun e w' => e = .returned (.bool true) ∧ Below w.heap.size w w' := by
  go_enter Try.func4, Try.ntmps4
  go_wp2_with fail
  refine (copy_u w ba len cap l (by omega) hnil hB).mono ?_
  rintro e w1 ⟨b, d, rfl, ho, c1⟩
  go_wp2_with fail
  refine (pack_u w1 wa va n wc m vc W V hn hm (hW.below c1) (hV.below c1)).mono ?_
  rintro e w2 ⟨xa, xl, xc, rfl, hx, b2⟩
  have ho2 := owns_below ho b2
  have c2 := on c1 b2
  clear ho c1 b2
  go_wp2_with fail
  refine (refPack_u w2 wa va n wc m vc W V hn hm hV64 (hW.below c2) (hV.below c2)).mono ?_
  rintro e w3 ⟨ya, yl, yc, rfl, hy, b3⟩
  have ho3 := owns_below ho2 b3
  have hx3 := owns_below hx b3
  have c3 := on c2 b3
  clear ho2 hx c2 b3
  go_wp2_with fail
  refine (unpack_u w3 wa b n wc len d W l hn (by omega) (hW.below c3) (owns_isB ho3).1).mono ?_
  rintro e w4 ⟨ua, ul, uc, rfl, hu, b4⟩
  have ho4 := owns_below ho3 b4
  have hx4 := owns_below hx3 b4
  have hy4 := owns_below hy b4
  have c4 := on c3 b4
  clear ho3 hx3 hy c3 b4
  go_wp2_with fail
  refine (refUnpack_u w4 wa ba n wc len cap W l hn (by omega) (hW.below c4) (hB.below c4)).mono ?_
  rintro e w5 ⟨ta, tl, tc, rfl, ht, b5⟩
  have ho5 := owns_below ho4 b5
  have hx5 := owns_below hx4 b5
  have hy5 := owns_below hy4 b5
  have hu5 := owns_below hu b5
  have c5 := on c4 b5
  clear ho4 hx4 hy4 hu c4 b5
  have hul := unpackL_length W l
  have hul2 := (owns_isN hu5).2.2.2
  have htl2 := (owns_isN ht).2.2.2
  have HU : Hid (ul ≤ maxLen) := by unfold Hid maxLen; omega
  have HT : Hid (tl ≤ maxLen) := by unfold Hid maxLen; omega
  clear hul hul2 htl2
  generalize Oct.packE W V = pe at *
  generalize Oct.unpackE W l = ue at *
  go_wp2_with fail
  refine (sameBytes_any w5 _ _ _ _ _ _ _ _ (owns_isB hx5).1 (owns_isB hy5).1).mono ?_
  rintro e w9 ⟨rfl, rfl⟩
  rw [beq_self_eq_true]
  go_wp2_with (go_at_call 19; refine (num_any _ _).mono ?_; rintro e w9 ⟨rfl, rfl⟩)
  refine (sameNums_any w5 _ _ _ _ _ _ _ _ HU.out HT.out (owns_isN hu5).1 (owns_isN ht).1).mono ?_
  rintro e w6 ⟨rfl, b6⟩
  rw [beq_self_eq_true]
  have ho6 := owns_below ho5 b6
  have c6 := on c5 b6
  clear ho5 hx5 hy5 hu5 ht c5 b6
  go_wp2_with (go_at_call 19; refine (num_any _ _).mono ?_; rintro e w9 ⟨rfl, rfl⟩)
  refine (sameBytes_any w6 _ _ _ _ _ _ _ _ (owns_isB ho6).1 (hB.below c6)).mono ?_
  rintro e w9 ⟨rfl, rfl⟩
  rw [beq_self_eq_true]
  go_wp2_with fail
  refine (alive_any w6).mono ?_
  rintro e w10 ⟨rfl, b10⟩
  go_wp2
  go_ret
  exact ⟨rfl, on c6 b10⟩

theorem lists_walk (a0 : Option Addr) (len0 cap0 : Nat) (z0 : List Int) (a1 : Option Addr) (len1 cap1 : Nat) (z1 : List Int) (a2 : Option Addr) (len2 cap2 : Nat) (z2 : List Int) (w : World) (w0 : IsRow .i64 8 w a0 len0 cap0 z0) (w1 : IsRow .u64 8 w a1 len1 cap1 z1) (w2 : IsRow .u8 1 w a2 len2 cap2 z2) :
    Calls Try.prog 4 #[.slice a0 len0 cap0, .slice a1 len1 cap1, .slice a2 len2 cap2] w fun e w' => e = .returned (.bool true) ∧ Below w.heap.size w w' := by
  obtain ⟨W, hW, h1, h2, _⟩ := w0.ints
  obtain ⟨V0, hV, h3, h4, h5⟩ := w1.ints
  obtain ⟨V, rfl, h6⟩ := nats_of V0 h5
  obtain ⟨l, hB, h7, h8, h9⟩ := w2.octets
  have b0 := w0.1
  have b1 := w1.1
  exact lists_in a0 a1 a2 len0 cap0 len1 cap1 len2 cap2 W V l w (by unfold maxLen; omega) (by unfold maxLen; omega) h6 hW hV hB h9 h8

set_option maxRecDepth 100000 in
theorem lists_lifted (os : Os) (started : os.Started) (H : Type) (enc : TypeId × Value → H) :
    ReturnsInHanded {} Try.checked os 4 .any (Rows.octetsListsSpec.pre6 enc Try.prog Try.f4 Rows.octetsListsRow.domain false) (Rows.octetsListsSpec.post enc Try.prog Try.f4 false true false false) := by
  refine returnsInHanded_of_change_sized (C := Try.checked) own started (by kernel_rfl) Try.func4
    (ChangeSpec.witness6 (enc := enc) (C := Try.checked) false ⟨#[], #[.slice none 0 0, .slice none 0 0, .slice none 0 0], []⟩ 8 (by kernel_rfl) (by kernel_rfl) (by kernel_rfl) (by kernel_rfl)) ?_
  intro W base args ds gs before hval0 hW _ hsz0 _
  have hsz : (DataW.weightsEach Try.prog (Try.f4.params.toList ++ Rows.octetsListsSpec.plain.varTypes Try.prog) (ds ++ gs)).all (· ≤ reachBytes) = true := hsz0
  clear hsz0
  have hval : ∀ (j : Nat) t v, Try.f4.params[j]? = some t → args[j]? = some v → Value.okWide Try.prog W .any base t v := hval0
  have hW' := hW
  obtain ⟨p, q, hA0, hV, rfl, hfz, hnd⟩ := hW
  have hA : DataW.TrodAll enc Try.prog W 0 (fun _ => true) true Try.f4.params.toList args.toList ds p := hA0
  rw [Try.params4] at hA hval hsz
  obtain ⟨v0, vs0, d0, ds0, p0, q0, hargs, rfl, rfl, h0, r0⟩ := trodAll_cons hA
  obtain ⟨v1, vs1, d1, ds1, p1, q1, rfl, rfl, rfl, h1, r1⟩ := trodAll_cons r0
  obtain ⟨v2, vs2, d2, ds2, p2, q2, rfl, rfl, rfl, h2, r2⟩ := trodAll_cons r1
  obtain ⟨rfl, rfl, rfl⟩ := trodAll_nil r2
  obtain rfl : args = #[v0, v1, v2] := by cases args; simp_all
  obtain ⟨rfl, rfl⟩ := trodVars_none hV
  obtain ⟨a0, len0, cap0, rfl⟩ := okWide_slice Try.underlying44 (hval 0 44 v0 rfl rfl)
  have k0 := h0
  have lt0 : ∀ x ∈ p0, x.block < W.heap.size := by obtain ⟨m, hm⟩ := k0; exact DataW.trod_lt m _ _ _ hm
  obtain ⟨z0, w0⟩ : ∃ zs, IsRow .i64 8 W a0 len0 cap0 zs := by
    obtain ⟨fuel, hf⟩ := h0
    rcases open_ints Try.underlying44 Try.underlying3 (by kernel_rfl) hf with ⟨hcs, _⟩ | ⟨x, l, c, zs, hcs, _, hl, hm, hz, hx, hcell, hwz⟩
    · simp [Value.cells] at hcs
      obtain ⟨rfl, rfl, rfl⟩ := hcs
      exact ⟨[], by simp, .inl ⟨rfl, rfl, rfl, rfl⟩⟩
    · simp [Value.cells] at hcs
      obtain ⟨rfl, rfl, rfl⟩ := hcs
      simp only [Prod.mk.injEq] at hx
      obtain ⟨rfl, rfl⟩ := hx
      simp only [if_true] at hz
      have hs := sized_slice hsz (j := 0) (t := 44) (e := 3) rfl rfl Try.underlying44
      rw [show Try.prog.bytesOf 3 = 8 from by kernel_rfl] at hs
      simp only [lits, List.length_map, List.length_take, List.length_drop, reachBytes] at hs
      exact ⟨zs, by omega, .inr ⟨_, rfl, hl, hm, hz, hcell, hwz⟩⟩
  obtain ⟨a1, len1, cap1, rfl⟩ := okWide_slice Try.underlying45 (hval 1 45 v1 rfl rfl)
  have k1 := h1
  have lt1 : ∀ x ∈ p1, x.block < W.heap.size := by obtain ⟨m, hm⟩ := k1; exact DataW.trod_lt m _ _ _ hm
  obtain ⟨z1, w1⟩ : ∃ zs, IsRow .u64 8 W a1 len1 cap1 zs := by
    obtain ⟨fuel, hf⟩ := h1
    rcases open_ints Try.underlying45 Try.underlying22 (by kernel_rfl) hf with ⟨hcs, _⟩ | ⟨x, l, c, zs, hcs, _, hl, hm, hz, hx, hcell, hwz⟩
    · simp [Value.cells] at hcs
      obtain ⟨rfl, rfl, rfl⟩ := hcs
      exact ⟨[], by simp, .inl ⟨rfl, rfl, rfl, rfl⟩⟩
    · simp [Value.cells] at hcs
      obtain ⟨rfl, rfl, rfl⟩ := hcs
      simp only [Prod.mk.injEq] at hx
      obtain ⟨rfl, rfl⟩ := hx
      simp only [if_true] at hz
      have hs := sized_slice hsz (j := 1) (t := 45) (e := 22) rfl rfl Try.underlying45
      rw [show Try.prog.bytesOf 22 = 8 from by kernel_rfl] at hs
      simp only [lits, List.length_map, List.length_take, List.length_drop, reachBytes] at hs
      exact ⟨zs, by omega, .inr ⟨_, rfl, hl, hm, hz, hcell, hwz⟩⟩
  obtain ⟨a2, len2, cap2, rfl⟩ := okWide_slice Try.underlying23 (hval 2 23 v2 rfl rfl)
  have k2 := h2
  have lt2 : ∀ x ∈ p2, x.block < W.heap.size := by obtain ⟨m, hm⟩ := k2; exact DataW.trod_lt m _ _ _ hm
  obtain ⟨z2, w2⟩ : ∃ zs, IsRow .u8 1 W a2 len2 cap2 zs := by
    obtain ⟨fuel, hf⟩ := h2
    rcases open_ints Try.underlying23 Try.underlying5 (by kernel_rfl) hf with ⟨hcs, _⟩ | ⟨x, l, c, zs, hcs, _, hl, hm, hz, hx, hcell, hwz⟩
    · simp [Value.cells] at hcs
      obtain ⟨rfl, rfl, rfl⟩ := hcs
      exact ⟨[], by simp, .inl ⟨rfl, rfl, rfl, rfl⟩⟩
    · simp [Value.cells] at hcs
      obtain ⟨rfl, rfl, rfl⟩ := hcs
      simp only [Prod.mk.injEq] at hx
      obtain ⟨rfl, rfl⟩ := hx
      simp only [if_true] at hz
      have hs := sized_slice hsz (j := 2) (t := 23) (e := 5) rfl rfl Try.underlying23
      rw [show Try.prog.bytesOf 5 = 1 from by kernel_rfl] at hs
      simp only [lits, List.length_map, List.length_take, List.length_drop, reachBytes] at hs
      exact ⟨zs, by omega, .inr ⟨_, rfl, hl, hm, hz, hcell, hwz⟩⟩
  clear hA0 hval0
  refine (lists_walk a0 len0 cap0 z0 a1 len1 cap1 z1 a2 len2 cap2 z2 W w0 w1 w2).mono fun e W' ⟨he, bel⟩ => ?_
  subst he
  exact ⟨_, rfl, _, _, _, [], _, [], hW', trodAll_mk1 (shut_bool Try.underlying4 _), (trodAll_cons_mk (Below.trod laidOut (by kernel_rfl) (of_decide_eq_true (by kernel_rfl)) k0 bel lt0) (trodAll_cons_mk (Below.trod laidOut (by kernel_rfl) (of_decide_eq_true (by kernel_rfl)) k1 bel lt1) (trodAll_cons_mk (Below.trod laidOut (by kernel_rfl) (of_decide_eq_true (by kernel_rfl)) k2 bel lt2) trodAll_mk0))), rfl, bel.frame _, fun h => by cases h⟩

theorem octetsLists_holds : Rows.OctetsListsSaid :=
  OpenClaim.holds_of_wide 4 Try.f4 rfl rfl rfl rfl rfl rfl rfl ⟨rfl, rfl, rfl, rfl, rfl⟩ rfl rfl rfl rfl rfl (by kernel_rfl) Try.func4 (by kernel_rfl)
    (of_decide_eq_true (by kernel_rfl)) (by unfold Func.isWrapper; first | (rw [if_pos (by decide +kernel)]; kernel_rfl) | (rw [if_neg (by decide +kernel)]; exact ⟨rfl, rfl⟩))
    (fun os started H enc _ => lists_lifted os started H enc)

end Go.Proofs.Ytomfplmkbdalhaa
