/-
  The statement OctetsTells holds: for every number, size, octets, place and text the law returns true and its arguments read as before. Conditions: none.
-/
import Derived.Test.YtomfplmkbdalhaaFrame
import Derived.Test.YtomfplmkbdalhaaRefs
namespace Go.Proofs.Ytomfplmkbdalhaa
open Go.ChangeShapes Go.WideShapes Go.ChangeAt Go.RowKit
open Go.ChangeMaps (open_string shut_string)
set_option linter.unusedVariables false

set_option maxHeartbeats 1600000 in
theorem tells_in (n : Nat) (S : Int) (a : Option Addr) (len cap : Nat) (l : List UInt8) (P : Int) (s : ByteArray) (w : World) (hn : n < 18446744073709551616) (hB : IsB w a len l) (hlen : len ≤ 140737488351232) (hcap : len ≤ cap) (hnil : a = none → cap = 0)
    (hP : P ≤ 9223372036854775807) (hs : s.size ≤ maxLen) :
    Calls Try.prog 3 #[.int .u64 n, .int .i64 S, .slice a len cap, .int .i64 P, .string s] w fun e w' => e = .returned (.bool true) ∧ Below w.heap.size w w' := by
  have hm : len ≤ maxLen := by unfold maxLen; omega
  go_enter Try.func3, Try.ntmps3
  go_wp2_with fail
  refine (copy_u w a len cap l (by omega) hnil hB).mono ?_
  rintro e w1 ⟨b, d, rfl, hown, b1⟩
  have hO : IsB w1 b len l := by obtain ⟨_, _, e, _, _, h⟩ := owns_slice hown; cases e; exact h
  have hd : len ≤ d := by obtain ⟨_, _, e, h, _⟩ := owns_slice hown; cases e; exact h
  have hB1 := hB.below b1
  go_wp2_with fail
  refine (put_u n _ S rfl w1).mono ?_
  rintro e w2 ⟨xa, xl, xc, rfl, hx, b2⟩
  have hX : IsB w2 xa xl (Oct.putL n S) := by obtain ⟨_, _, e, _, _, h⟩ := owns_slice hx; cases e; exact h
  have hO2 := hO.below b2
  have hB2 := hB1.below b2
  have c2 := on b1 b2
  clear hown hx hO hB1 b1 b2
  go_wp2_with fail
  refine (refPut_u n S w2 hn).mono ?_
  rintro e w3 ⟨ya, yl, yc, rfl, hy, b3⟩
  have hY : IsB w3 ya yl (Oct.putL n S) := by obtain ⟨_, _, e, _, _, h⟩ := owns_slice hy; cases e; exact h
  have hX3 := hX.below b3
  have hO3 := hO2.below b3
  have hB3 := hB2.below b3
  have c3 := on c2 b3
  clear hy hX hO2 hB2 c2 b3
  go_wp2_with fail
  refine (get_u w3 b len d l P S hP hm hO3).mono ?_
  rintro e w4 ⟨rfl, b4⟩
  have hY4 := hY.below b4
  have hX4 := hX3.below b4
  have hO4 := hO3.below b4
  have hB4 := hB3.below b4
  have c4 := on c3 b4
  clear hY hX3 hO3 hB3 c3 b4
  go_wp2_with fail
  refine (refGet_u w4 a len cap l P S hm hB4).mono ?_
  rintro e w5 ⟨rfl, rfl⟩
  go_wp2_with fail
  refine (text_u s w4 hs).mono ?_
  rintro e w6 ⟨pa, pl, pc, rfl, hp, b6⟩
  have hp6 : IsB w6 pa pl (Oct.textL s.data.toList) := by obtain ⟨_, _, e, _, _, h⟩ := owns_slice hp; cases e; exact h
  have hY6 := hY4.below b6
  have hX6 := hX4.below b6
  have hO6 := hO4.below b6
  have hB6 := hB4.below b6
  have c6 := on c4 b6
  clear hp hY4 hX4 hO4 hB4 c4 b6
  go_wp2_with fail
  refine (refText_u s w6 hs).mono ?_
  rintro e w7 ⟨qa, ql, qc, rfl, hq, b7⟩
  have hq7 : IsB w7 qa ql (Oct.textL s.data.toList) := by obtain ⟨_, _, e, _, _, h⟩ := owns_slice hq; cases e; exact h
  have hp7 := hp6.below b7
  have hY7 := hY6.below b7
  have hX7 := hX6.below b7
  have hO7 := hO6.below b7
  have hB7 := hB6.below b7
  have c7 := on c6 b7
  clear hq hp6 hY6 hX6 hO6 hB6 c6 b7
  go_wp2_with fail
  refine (read_u w7 b len d l P hP hm hd hO7).mono ?_
  rintro e w8 ⟨rfl, b8⟩
  have hq8 := hq7.below b8
  have hp8 := hp7.below b8
  have hY8 := hY7.below b8
  have hX8 := hX7.below b8
  have hO8 := hO7.below b8
  have hB8 := hB7.below b8
  have c8 := on c7 b8
  clear hq7 hp7 hY7 hX7 hO7 hB7 c7 b8
  go_wp2_with fail
  refine (refRead_u w8 a len cap l P hm hcap hB8).mono ?_
  rintro e w9 ⟨rfl, rfl⟩
  clear hn hlen hcap hnil hP hs hm hd hB
  generalize Oct.putE n S = pe at *
  generalize Oct.getE l P S = ge at *
  generalize Oct.getV l P S = gv at *
  generalize Oct.textE s.data.toList = te at *
  generalize Oct.readE l P = re at *
  generalize Oct.readN l P = rn at *
  generalize Oct.readS l P = rs at *
  go_wp2_with fail
  refine (sameBytes_any w8 _ _ _ _ _ _ _ _ hX8 hY8).mono ?_
  rintro e w9 ⟨rfl, rfl⟩
  rw [beq_self_eq_true]
  go_wp2_with (go_at_call 19; refine (num_any _ _).mono ?_; rintro e w9 ⟨rfl, rfl⟩)
  refine (sameBytes_any w8 _ _ _ _ _ _ _ _ hp8 hq8).mono ?_
  rintro e w9 ⟨rfl, rfl⟩
  rw [beq_self_eq_true]
  go_wp2_with (go_at_call 19; refine (num_any _ _).mono ?_; rintro e w9 ⟨rfl, rfl⟩)
  refine (sameBytes_any w8 _ _ _ _ _ _ _ _ hO8 hB8).mono ?_
  rintro e w9 ⟨rfl, rfl⟩
  rw [beq_self_eq_true]
  go_wp2_with fail
  refine (alive_any w8).mono ?_
  rintro e w10 ⟨rfl, b10⟩
  go_wp2
  go_ret
  exact ⟨rfl, on c8 b10⟩

theorem tells_walk (a0 : Int) (a1 : Int) (a2 : Option Addr) (len2 cap2 : Nat) (z2 : List Int) (a3 : Int) (a4 : ByteArray) (w : World) (w0 : (Lit.int .u64 a0).wf = true) (w1 : (Lit.int .i64 a1).wf = true) (w2 : IsRow .u8 1 w a2 len2 cap2 z2) (w3 : (Lit.int .i64 a3).wf = true) (w4 : a4.size ≤ maxLen) :
    Calls Try.prog 3 #[.int .u64 a0, .int .i64 a1, .slice a2 len2 cap2, .int .i64 a3, .string a4] w fun e w' => e = .returned (.bool true) ∧ Below w.heap.size w w' := by
  obtain ⟨n, rfl, hn⟩ := wf_u64 w0
  obtain ⟨l, hB, h1, h2, h3⟩ := w2.octets
  exact tells_in n a1 a2 len2 cap2 l a3 a4 w hn hB h3 h1 h2 (by have := bounds_i64 w3; omega) w4

set_option maxRecDepth 100000 in
theorem tells_lifted (os : Os) (started : os.Started) (H : Type) (enc : TypeId × Value → H) :
    ReturnsInHanded {} Try.checked os 3 .any (Rows.octetsTellsSpec.pre6 enc Try.prog Try.f3 Rows.octetsTellsRow.domain false) (Rows.octetsTellsSpec.post enc Try.prog Try.f3 false true false false) := by
  refine returnsInHanded_of_change_sized (C := Try.checked) own started (by kernel_rfl) Try.func3
    (ChangeSpec.witness6 (enc := enc) (C := Try.checked) false ⟨#[], #[.int .u64 0, .int .i64 0, .slice none 0 0, .int .i64 0, .string ByteArray.empty], []⟩ 8 (by kernel_rfl) (by kernel_rfl) (by kernel_rfl) (by kernel_rfl)) ?_
  intro W base args ds gs before hval0 hW _ hsz0 _
  have hsz : (DataW.weightsEach Try.prog (Try.f3.params.toList ++ Rows.octetsTellsSpec.plain.varTypes Try.prog) (ds ++ gs)).all (· ≤ reachBytes) = true := hsz0
  clear hsz0
  have hval : ∀ (j : Nat) t v, Try.f3.params[j]? = some t → args[j]? = some v → Value.okWide Try.prog W .any base t v := hval0
  have hW' := hW
  obtain ⟨p, q, hA0, hV, rfl, hfz, hnd⟩ := hW
  have hA : DataW.TrodAll enc Try.prog W 0 (fun _ => true) true Try.f3.params.toList args.toList ds p := hA0
  rw [Try.params3] at hA hval hsz
  obtain ⟨v0, vs0, d0, ds0, p0, q0, hargs, rfl, rfl, h0, r0⟩ := trodAll_cons hA
  obtain ⟨v1, vs1, d1, ds1, p1, q1, rfl, rfl, rfl, h1, r1⟩ := trodAll_cons r0
  obtain ⟨v2, vs2, d2, ds2, p2, q2, rfl, rfl, rfl, h2, r2⟩ := trodAll_cons r1
  obtain ⟨v3, vs3, d3, ds3, p3, q3, rfl, rfl, rfl, h3, r3⟩ := trodAll_cons r2
  obtain ⟨v4, vs4, d4, ds4, p4, q4, rfl, rfl, rfl, h4, r4⟩ := trodAll_cons r3
  obtain ⟨rfl, rfl, rfl⟩ := trodAll_nil r4
  obtain rfl : args = #[v0, v1, v2, v3, v4] := by cases args; simp_all
  obtain ⟨rfl, rfl⟩ := trodVars_none hV
  obtain ⟨a0, rfl, rfl, rfl, w0⟩ := open_int Try.underlying22 (hval 0 22 v0 rfl rfl) h0
  obtain ⟨a1, rfl, rfl, rfl, w1⟩ := open_int Try.underlying3 (hval 1 3 v1 rfl rfl) h1
  obtain ⟨a2, len2, cap2, rfl⟩ := okWide_slice Try.underlying23 (hval 2 23 v2 rfl rfl)
  have k2 := h2
  have lt2 : ∀ x ∈ p2, x.block < W.heap.size := by obtain ⟨m, hm⟩ := k2; exact DataW.trod_lt m _ _ _ hm
  obtain ⟨z2, w2⟩ : ∃ zs, IsRow .u8 1 W a2 len2 cap2 zs := by
    obtain ⟨fuel, hf⟩ := h2
    rcases open_ints Try.underlying23 Try.underlying5 (by kernel_rfl) hf with ⟨hcs, _⟩ | ⟨x, l, c, zs, hcs, _, hl, hm, hz, hx, hcell, hwz⟩
    · simp [Value.cells] at hcs
      obtain ⟨rfl, rfl, rfl⟩ := hcs
      exact ⟨[], by simp, .inl ⟨rfl, rfl, rfl, rfl⟩⟩
    · simp [Value.cells] at hcs
      obtain ⟨rfl, rfl, rfl⟩ := hcs
      simp only [Prod.mk.injEq] at hx
      obtain ⟨rfl, rfl⟩ := hx
      simp only [if_true] at hz
      have hs := sized_slice hsz (j := 2) (t := 23) (e := 5) rfl rfl Try.underlying23
      rw [show Try.prog.bytesOf 5 = 1 from by kernel_rfl] at hs
      simp only [lits, List.length_map, List.length_take, List.length_drop, reachBytes] at hs
      exact ⟨zs, by omega, .inr ⟨_, rfl, hl, hm, hz, hcell, hwz⟩⟩
  obtain ⟨a3, rfl, rfl, rfl, w3⟩ := open_int Try.underlying3 (hval 3 3 v3 rfl rfl) h3
  obtain ⟨a4, rfl, rfl, rfl, w4⟩ := open_string Try.underlying9 (hval 4 9 v4 rfl rfl) h4
  clear hA0 hval0
  refine (tells_walk a0 a1 a2 len2 cap2 z2 a3 a4 W w0 w1 w2 w3 w4).mono fun e W' ⟨he, bel⟩ => ?_
  subst he
  exact ⟨_, rfl, _, _, _, [], _, [], hW', trodAll_mk1 (shut_bool Try.underlying4 _), (trodAll_cons_mk (shut_int Try.underlying22 w0) (trodAll_cons_mk (shut_int Try.underlying3 w1) (trodAll_cons_mk (Below.trod laidOut (by kernel_rfl) (of_decide_eq_true (by kernel_rfl)) k2 bel lt2) (trodAll_cons_mk (shut_int Try.underlying3 w3) (trodAll_cons_mk (shut_string Try.underlying9 w4) trodAll_mk0))))), rfl, bel.frame _, fun h => by cases h⟩

theorem octetsTells_holds : Rows.OctetsTellsSaid :=
  OpenClaim.holds_of_wide 3 Try.f3 rfl rfl rfl rfl rfl rfl rfl ⟨rfl, rfl, rfl, rfl, rfl⟩ rfl rfl rfl rfl rfl (by kernel_rfl) Try.func3 (by kernel_rfl)
    (of_decide_eq_true (by kernel_rfl)) (by unfold Func.isWrapper; first | (rw [if_pos (by decide +kernel)]; kernel_rfl) | (rw [if_neg (by decide +kernel)]; exact ⟨rfl, rfl⟩))
    (fun os started H enc _ => tells_lifted os started H enc)


end Go.Proofs.Ytomfplmkbdalhaa
