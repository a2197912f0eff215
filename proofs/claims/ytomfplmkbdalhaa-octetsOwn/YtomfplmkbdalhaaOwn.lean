/-
  The statement OctetsOwn holds: for every widths, octets and place the law returns true and its arguments read as before. Conditions: none.
-/
import Derived.Test.YtomfplmkbdalhaaLists
import Derived.Test.YtomfplmkbdalhaaSpoil
namespace Go.Proofs.Ytomfplmkbdalhaa
open Go.ChangeShapes Go.WideShapes Go.ChangeAt Go.RowKit
open Go.ChangeMaps (open_string shut_string)
set_option linter.unusedVariables false

set_option maxHeartbeats 1600000 in
theorem own_in (wa ba : Option Addr) (n wc len cap : Nat) (W : List Int) (l : List UInt8) (P : Int) (w : World) (hn : n ≤ maxLen) (hW : IsN .i64 w wa n W) (hB : IsB w ba len l) (hlen : len ≤ 140737488351232) (hcap : len ≤ cap) (hnil : ba = none → cap = 0) (hP : P ≤ 9223372036854775807) :
    Calls Try.prog 8 #[.slice wa n wc, .slice ba len cap, .int .i64 P] w fun e w' => e = .returned (.bool true) ∧ Below w.heap.size w w' := by
  have hm : len ≤ maxLen := by unfold maxLen; omega
  go_enter Try.func8, Try.ntmps8
  go_wp2_with fail
  refine (alive_any w).mono ?_
  rintro e w1 ⟨rfl, c1⟩
  go_wp2_with fail
  refine (copy_u w1 ba len cap l (by omega) hnil (hB.below c1)).mono ?_
  rintro e w2 ⟨b, d, rfl, ho, b2⟩
  have c2 := on c1 b2
  have hz1 := c1.size
  have hlt := own_lt ho
  clear b2 c1
  go_wp2_with fail
  refine (unpack_u w2 wa b n wc len d W l hn (by omega) (hW.below c2) (owns_isB ho).1).mono ?_
  rintro e w3 ⟨ua, ul, uc, rfl, hu, b3⟩
  have ho3 := owns_below ho b3
  have c3 := on c2 b3
  clear ho c2 b3
  go_wp2_with fail
  refine (read_u w3 b len d l P hP hm (owns_isB ho3).2.1 (owns_isB ho3).1).mono ?_
  rintro e w4 ⟨rfl, b4⟩
  have ho4 := owns_below ho3 b4
  have hu4 := owns_below hu b4
  have c4 := on c3 b4
  clear ho3 hu c3 b4
  go_wp2_with fail
  refine (spoil_u w4 _ len d b l (by omega) ho4).mono ?_
  rintro e w5 ⟨rfl, hg5⟩
  have hu5 := owns_grown hu4 hg5 hlt
  have c5 : Below w.heap.size w w5 := c4.grown hg5 c4.size (fun k hk => Nat.le_trans hz1 (own_base ho4 k hk))
  clear ho4 hu4 c4 hg5 hlt hz1
  go_wp2_with fail
  refine (refUnpack_u w5 wa ba n wc len cap W l hn (by omega) (hW.below c5) (hB.below c5)).mono ?_
  rintro e w6 ⟨ta, tl, tc, rfl, ht, b6⟩
  have hu6 := owns_below hu5 b6
  have c6 := on c5 b6
  clear hu5 c5 b6
  go_wp2_with fail
  refine (refRead_u w6 ba len cap l P hm hcap (hB.below c6)).mono ?_
  rintro e w7 ⟨rfl, rfl⟩
  have hul := unpackL_length W l
  have hul2 := (owns_isN hu6).2.2.2
  have htl2 := (owns_isN ht).2.2.2
  have HU : Hid (ul ≤ maxLen) := by unfold Hid maxLen; omega
  have HT : Hid (tl ≤ maxLen) := by unfold Hid maxLen; omega
  clear hul hul2 htl2 hB hW hn hlen hcap hnil hP hm
  generalize Oct.unpackE W l = ue at *
  generalize Oct.readE l P = re at *
  generalize Oct.readN l P = rn at *
  generalize Oct.readS l P = rs at *
  go_wp2_with fail
  refine (sameNums_any w6 _ _ _ _ _ _ _ _ HU.out HT.out (owns_isN hu6).1 (owns_isN ht).1).mono ?_
  rintro e w8 ⟨rfl, b8⟩
  rw [beq_self_eq_true]
  have c8 := on c6 b8
  clear hu6 ht c6 b8
  go_wp2_with (go_at_call 19; refine (num_any _ _).mono ?_; rintro e w9 ⟨rfl, rfl⟩)
  go_ret
  exact ⟨rfl, c8⟩

theorem own_walk (a0 : Option Addr) (len0 cap0 : Nat) (z0 : List Int) (a1 : Option Addr) (len1 cap1 : Nat) (z1 : List Int) (a2 : Int) (w : World) (w0 : IsRow .i64 8 w a0 len0 cap0 z0) (w1 : IsRow .u8 1 w a1 len1 cap1 z1) (w2 : (Lit.int .i64 a2).wf = true) :
    Calls Try.prog 8 #[.slice a0 len0 cap0, .slice a1 len1 cap1, .int .i64 a2] w fun e w' => e = .returned (.bool true) ∧ Below w.heap.size w w' := by
  obtain ⟨W, hW, h1, h2, _⟩ := w0.ints
  obtain ⟨l, hB, h7, h8, h9⟩ := w1.octets
  have b0 := w0.1
  exact own_in a0 a1 len0 cap0 len1 cap1 W l a2 w (by unfold maxLen; omega) hW hB h9 h7 h8 (by have := bounds_i64 w2; omega)

set_option maxRecDepth 100000 in
theorem own_lifted (os : Os) (started : os.Started) (H : Type) (enc : TypeId × Value → H) :
    ReturnsInHanded {} Try.checked os 8 .any (Rows.octetsOwnSpec.pre6 enc Try.prog Try.f8 Rows.octetsOwnRow.domain false) (Rows.octetsOwnSpec.post enc Try.prog Try.f8 false true false false) := by
  refine returnsInHanded_of_change_sized (C := Try.checked) own started (by kernel_rfl) Try.func8
    (ChangeSpec.witness6 (enc := enc) (C := Try.checked) false ⟨#[], #[.slice none 0 0, .slice none 0 0, .int .i64 0], []⟩ 8 (by kernel_rfl) (by kernel_rfl) (by kernel_rfl) (by kernel_rfl)) ?_
  intro W base args ds gs before hval0 hW _ hsz0 _
  have hsz : (DataW.weightsEach Try.prog (Try.f8.params.toList ++ Rows.octetsOwnSpec.plain.varTypes Try.prog) (ds ++ gs)).all (· ≤ reachBytes) = true := hsz0
  clear hsz0
  have hval : ∀ (j : Nat) t v, Try.f8.params[j]? = some t → args[j]? = some v → Value.okWide Try.prog W .any base t v := hval0
  have hW' := hW
  obtain ⟨p, q, hA0, hV, rfl, hfz, hnd⟩ := hW
  have hA : DataW.TrodAll enc Try.prog W 0 (fun _ => true) true Try.f8.params.toList args.toList ds p := hA0
  rw [Try.params8] at hA hval hsz
  obtain ⟨v0, vs0, d0, ds0, p0, q0, hargs, rfl, rfl, h0, r0⟩ := trodAll_cons hA
  obtain ⟨v1, vs1, d1, ds1, p1, q1, rfl, rfl, rfl, h1, r1⟩ := trodAll_cons r0
  obtain ⟨v2, vs2, d2, ds2, p2, q2, rfl, rfl, rfl, h2, r2⟩ := trodAll_cons r1
  obtain ⟨rfl, rfl, rfl⟩ := trodAll_nil r2
  obtain rfl : args = #[v0, v1, v2] := by cases args; simp_all
  obtain ⟨rfl, rfl⟩ := trodVars_none hV
  obtain ⟨a0, len0, cap0, rfl⟩ := okWide_slice Try.underlying44 (hval 0 44 v0 rfl rfl)
  have k0 := h0
  have lt0 : ∀ x ∈ p0, x.block < W.heap.size := by obtain ⟨m, hm⟩ := k0; exact DataW.trod_lt m _ _ _ hm
  obtain ⟨z0, w0⟩ : ∃ zs, IsRow .i64 8 W a0 len0 cap0 zs := by
    obtain ⟨fuel, hf⟩ := h0
    rcases open_ints Try.underlying44 Try.underlying3 (by kernel_rfl) hf with ⟨hcs, _⟩ | ⟨x, l, c, zs, hcs, _, hl, hm, hz, hx, hcell, hwz⟩
    · simp [Value.cells] at hcs
      obtain ⟨rfl, rfl, rfl⟩ := hcs
      exact ⟨[], by simp, .inl ⟨rfl, rfl, rfl, rfl⟩⟩
    · simp [Value.cells] at hcs
      obtain ⟨rfl, rfl, rfl⟩ := hcs
      simp only [Prod.mk.injEq] at hx
      obtain ⟨rfl, rfl⟩ := hx
      simp only [if_true] at hz
      have hs := sized_slice hsz (j := 0) (t := 44) (e := 3) rfl rfl Try.underlying44
      rw [show Try.prog.bytesOf 3 = 8 from by kernel_rfl] at hs
      simp only [lits, List.length_map, List.length_take, List.length_drop, reachBytes] at hs
      exact ⟨zs, by omega, .inr ⟨_, rfl, hl, hm, hz, hcell, hwz⟩⟩
  obtain ⟨a1, len1, cap1, rfl⟩ := okWide_slice Try.underlying23 (hval 1 23 v1 rfl rfl)
  have k1 := h1
  have lt1 : ∀ x ∈ p1, x.block < W.heap.size := by obtain ⟨m, hm⟩ := k1; exact DataW.trod_lt m _ _ _ hm
  obtain ⟨z1, w1⟩ : ∃ zs, IsRow .u8 1 W a1 len1 cap1 zs := by
    obtain ⟨fuel, hf⟩ := h1
    rcases open_ints Try.underlying23 Try.underlying5 (by kernel_rfl) hf with ⟨hcs, _⟩ | ⟨x, l, c, zs, hcs, _, hl, hm, hz, hx, hcell, hwz⟩
    · simp [Value.cells] at hcs
      obtain ⟨rfl, rfl, rfl⟩ := hcs
      exact ⟨[], by simp, .inl ⟨rfl, rfl, rfl, rfl⟩⟩
    · simp [Value.cells] at hcs
      obtain ⟨rfl, rfl, rfl⟩ := hcs
      simp only [Prod.mk.injEq] at hx
      obtain ⟨rfl, rfl⟩ := hx
      simp only [if_true] at hz
      have hs := sized_slice hsz (j := 1) (t := 23) (e := 5) rfl rfl Try.underlying23
      rw [show Try.prog.bytesOf 5 = 1 from by kernel_rfl] at hs
      simp only [lits, List.length_map, List.length_take, List.length_drop, reachBytes] at hs
      exact ⟨zs, by omega, .inr ⟨_, rfl, hl, hm, hz, hcell, hwz⟩⟩
  obtain ⟨a2, rfl, rfl, rfl, w2⟩ := open_int Try.underlying3 (hval 2 3 v2 rfl rfl) h2
  clear hA0 hval0
  refine (own_walk a0 len0 cap0 z0 a1 len1 cap1 z1 a2 W w0 w1 w2).mono fun e W' ⟨he, bel⟩ => ?_
  subst he
  exact ⟨_, rfl, _, _, _, [], _, [], hW', trodAll_mk1 (shut_bool Try.underlying4 _), (trodAll_cons_mk (Below.trod laidOut (by kernel_rfl) (of_decide_eq_true (by kernel_rfl)) k0 bel lt0) (trodAll_cons_mk (Below.trod laidOut (by kernel_rfl) (of_decide_eq_true (by kernel_rfl)) k1 bel lt1) (trodAll_cons_mk (shut_int Try.underlying3 w2) trodAll_mk0))), rfl, bel.frame _, fun h => by cases h⟩

theorem octetsOwn_holds : Rows.OctetsOwnSaid :=
  OpenClaim.holds_of_wide 8 Try.f8 rfl rfl rfl rfl rfl rfl rfl ⟨rfl, rfl, rfl, rfl, rfl⟩ rfl rfl rfl rfl rfl (by kernel_rfl) Try.func8 (by kernel_rfl)
    (of_decide_eq_true (by kernel_rfl)) (by unfold Func.isWrapper; first | (rw [if_pos (by decide +kernel)]; kernel_rfl) | (rw [if_neg (by decide +kernel)]; exact ⟨rfl, rfl⟩))
    (fun os started H enc _ => own_lifted os started H enc)

end Go.Proofs.Ytomfplmkbdalhaa
