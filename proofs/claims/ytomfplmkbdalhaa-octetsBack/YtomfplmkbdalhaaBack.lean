/-
  The statement OctetsBack holds: for every number, size, text and octets ahead the law returns true and its arguments read as before. Conditions: none.
-/
import Derived.Test.YtomfplmkbdalhaaFrame
import Derived.Test.YtomfplmkbdalhaaRefs
namespace Go.Proofs.Ytomfplmkbdalhaa
open Go.ChangeShapes Go.WideShapes Go.ChangeAt Go.RowKit
open Go.ChangeMaps (open_string shut_string)
set_option linter.unusedVariables false

theorem back_end (s : ByteArray) (len : Nat) : Ending.returned (.bool ((len : Int) + 1 + (s.size : Int) == (len : Int) + (1 + (s.size : Int)))) = .returned (.bool true) := by
  rw [beq_iff_eq.2 (by omega)]

set_option maxHeartbeats 1600000 in
theorem back_p_t (n : Nat) (S : Int) (s : ByteArray) (a : Option Addr) (len cap : Nat) (l : List UInt8) (w : World) (hn : n < 18446744073709551616) (hs : s.size ≤ maxLen) (hB : IsB w a len l) (hlen : len ≤ 140737488351232) (hcap : len ≤ cap) (hnil : a = none → cap = 0) (hp : Oct.putE n S = 0) (ht : Oct.textE s.data.toList = 0) :
    Calls Try.prog 5 #[.int .u64 n, .int .i64 S, .string s, .slice a len cap] w fun e w' => e = .returned (.bool true) ∧ Below w.heap.size w w' := by
  have hm : len ≤ 9223372036854775807 := by omega
  have hl : l.length = len := hB.1
  have HN : Hid (a = none → cap = 0) := hnil
  clear hnil
  obtain ⟨z, rfl, z1, z2, z3, z4⟩ := Oct.putE_zero hp
  obtain ⟨g1, g2⟩ := Oct.get_behind l n z z1 z2 z3
  rw [hl] at g1 g2
  have G1 : Hid _ := g1
  have G2 : Hid _ := g2
  clear g1 g2 z4 hp
  go_enter Try.func5, Try.ntmps5
  go_wp2_with fail
  refine (alive_any w).mono ?_
  rintro e w1 ⟨rfl, b1⟩
  go_wp2_with fail
  refine (put_ok n z _ _ rfl rfl w1 z1 z2 z3).mono ?_
  rintro e w2 ⟨rfl, hx, b2⟩
  have c2 := on b1 b2
  clear b1 b2
  go_wp2_with (go_at_call 19; refine (num_any _ _).mono ?_; rintro e w9 ⟨rfl, rfl⟩)
  refine (copy_u w2 a len cap l (by omega) HN.out (hB.below c2)).mono ?_
  rintro e w3 ⟨b, d, rfl, hown, b3⟩
  have hX := (isB_of_owns hx).below b3
  have c3 := on c2 b3
  have hz3 := b3.size
  have hz2 := c2.size
  clear hx b3 c2
  go_wp2_with (at_builtin; refine append_two rfl _ _ rfl w2.heap.size _ len l rfl hown _ z z _ rfl hX (fun e => by cases e) (by omega) hz3 ?_)
  intro b4 d4 w4 hown4 hg4
  have c4 : Below w.heap.size w w4 := c3.grown hg4 (c3.size) (fun k hk => Nat.le_trans hz2 (own_base hown k hk))
  clear hown hg4 c3 hX hz3 hz2
  go_wp2_with fail
  refine (get_u w4 b4 (len + z) d4 (l ++ Oct.octs n z) _ _ (by omega) (by unfold maxLen; omega) (owns_isB hown4).1).mono ?_
  rintro e w5 ⟨rfl, b5⟩
  rw [G1.out, G2.out]
  have cp := on c4 b5
  clear c4 b5 hown4
  go_wp2_with (go_at_call 19; refine (num_any _ _).mono ?_; rintro e w9 ⟨rfl, rfl⟩)
  have t0 : s.data.toList.length = s.size := by simp
  obtain ⟨t1, t2⟩ := Oct.textE_zero ht
  obtain ⟨r1, r2, r3⟩ := Oct.read_behind l s.data.toList ht
  rw [t0] at t1 t2 r3
  rw [t2, hl] at r1 r2 r3
  have R1 : Hid _ := r1
  have R2 : Hid _ := r2
  have R3 : Hid _ := r3
  clear r1 r2 r3 t2 t0
  refine (text_ok s w5 t1).mono ?_
  rintro e w6 ⟨ta, tc, rfl, ho6, b6⟩
  have c6 := on cp b6
  clear cp b6
  go_wp2_with (go_at_call 19; refine (num_any _ _).mono ?_; rintro e w9 ⟨rfl, rfl⟩)
  refine (copy_u w6 a len cap l (by omega) HN.out (hB.below c6)).mono ?_
  rintro e w7 ⟨b, d, rfl, hown, b7⟩
  have hX := (owns_isB ho6).1.below b7
  have hXn := (owns_isB ho6).2.2
  have c7 := on c6 b7
  have hz3 := b7.size
  have hz2 := c6.size
  clear ho6 b7 c6
  go_wp2_with (at_builtin; refine append_two rfl _ _ rfl w6.heap.size _ len l rfl hown _ (1 + s.size) tc _ rfl hX hXn (by omega) hz3 ?_)
  intro b8 d8 w8 hown8 hg8
  have c8 : Below w.heap.size w w8 := c7.grown hg8 (c7.size) (fun k hk => Nat.le_trans hz2 (own_base hown k hk))
  clear hown hg8 c7 hX hz3 hz2
  go_wp2_with fail
  refine (read_u w8 b8 (len + (1 + s.size)) d8 (l ++ UInt8.ofNat s.size :: s.data.toList) _ (by omega) (by unfold maxLen; omega) (owns_isB hown8).2.1 (owns_isB hown8).1).mono ?_
  rintro e w10 ⟨rfl, b10⟩
  rw [R1.out, R2.out, R3.out]
  have hend : ((len + 1 + s.size : Nat) : Int) = (len : Int) + ((1 + s.size : Nat) : Int) := by omega
  have HE : Hid _ := hend
  have cq := on c8 b10
  clear c8 b10 hown8 hend
  go_wp2_with (go_at_call 19; refine (num_any _ _).mono ?_; rintro e w9 ⟨rfl, rfl⟩)
  go_ret
  exact ⟨back_end s len, cq⟩

set_option maxHeartbeats 1600000 in
theorem back_p_f (n : Nat) (S : Int) (s : ByteArray) (a : Option Addr) (len cap : Nat) (l : List UInt8) (w : World) (hn : n < 18446744073709551616) (hs : s.size ≤ maxLen) (hB : IsB w a len l) (hlen : len ≤ 140737488351232) (hcap : len ≤ cap) (hnil : a = none → cap = 0) (hp : Oct.putE n S = 0) (ht : Oct.textE s.data.toList ≠ 0) :
    Calls Try.prog 5 #[.int .u64 n, .int .i64 S, .string s, .slice a len cap] w fun e w' => e = .returned (.bool true) ∧ Below w.heap.size w w' := by
  have hm : len ≤ 9223372036854775807 := by omega
  have hl : l.length = len := hB.1
  have HN : Hid (a = none → cap = 0) := hnil
  clear hnil
  obtain ⟨z, rfl, z1, z2, z3, z4⟩ := Oct.putE_zero hp
  obtain ⟨g1, g2⟩ := Oct.get_behind l n z z1 z2 z3
  rw [hl] at g1 g2
  have G1 : Hid _ := g1
  have G2 : Hid _ := g2
  clear g1 g2 z4 hp
  go_enter Try.func5, Try.ntmps5
  go_wp2_with fail
  refine (alive_any w).mono ?_
  rintro e w1 ⟨rfl, b1⟩
  go_wp2_with fail
  refine (put_ok n z _ _ rfl rfl w1 z1 z2 z3).mono ?_
  rintro e w2 ⟨rfl, hx, b2⟩
  have c2 := on b1 b2
  clear b1 b2
  go_wp2_with (go_at_call 19; refine (num_any _ _).mono ?_; rintro e w9 ⟨rfl, rfl⟩)
  refine (copy_u w2 a len cap l (by omega) HN.out (hB.below c2)).mono ?_
  rintro e w3 ⟨b, d, rfl, hown, b3⟩
  have hX := (isB_of_owns hx).below b3
  have c3 := on c2 b3
  have hz3 := b3.size
  have hz2 := c2.size
  clear hx b3 c2
  go_wp2_with (at_builtin; refine append_two rfl _ _ rfl w2.heap.size _ len l rfl hown _ z z _ rfl hX (fun e => by cases e) (by omega) hz3 ?_)
  intro b4 d4 w4 hown4 hg4
  have c4 : Below w.heap.size w w4 := c3.grown hg4 (c3.size) (fun k hk => Nat.le_trans hz2 (own_base hown k hk))
  clear hown hg4 c3 hX hz3 hz2
  go_wp2_with fail
  refine (get_u w4 b4 (len + z) d4 (l ++ Oct.octs n z) _ _ (by omega) (by unfold maxLen; omega) (owns_isB hown4).1).mono ?_
  rintro e w5 ⟨rfl, b5⟩
  rw [G1.out, G2.out]
  have cp := on c4 b5
  clear c4 b5 hown4
  go_wp2_with (go_at_call 19; refine (num_any _ _).mono ?_; rintro e w9 ⟨rfl, rfl⟩)
  have htl := Oct.textE_other ht
  have ht0 : (Oct.textE s.data.toList != 0) = true := bne_iff_ne.2 ht
  refine (text_u s w5 hs).mono ?_
  rintro e w6 ⟨ta, tl, tc, rfl, ho6, b6⟩
  have hx0 := ho6.1
  rw [htl] at hx0
  obtain rfl : tl = 0 := by simpa [cellsOf] using hx0.symm
  have c6 := on cp b6
  clear cp b6 ho6 hx0 htl ht
  go_wp2_with (go_at_call 19; refine (num_any _ _).mono ?_; rintro e w9 ⟨rfl, rfl⟩)
  go_ret
  exact ⟨rfl, c6⟩

set_option maxHeartbeats 1600000 in
theorem back_n_t (n : Nat) (S : Int) (s : ByteArray) (a : Option Addr) (len cap : Nat) (l : List UInt8) (w : World) (hn : n < 18446744073709551616) (hs : s.size ≤ maxLen) (hB : IsB w a len l) (hlen : len ≤ 140737488351232) (hcap : len ≤ cap) (hnil : a = none → cap = 0) (hp : Oct.putE n S ≠ 0) (ht : Oct.textE s.data.toList = 0) :
    Calls Try.prog 5 #[.int .u64 n, .int .i64 S, .string s, .slice a len cap] w fun e w' => e = .returned (.bool true) ∧ Below w.heap.size w w' := by
  have hm : len ≤ 9223372036854775807 := by omega
  have hl : l.length = len := hB.1
  have HN : Hid (a = none → cap = 0) := hnil
  clear hnil
  have hpl := Oct.putE_other hp
  have hp0 : (Oct.putE n S == 0) = false := beq_eq_false_iff_ne.2 hp
  go_enter Try.func5, Try.ntmps5
  go_wp2_with fail
  refine (alive_any w).mono ?_
  rintro e w1 ⟨rfl, b1⟩
  go_wp2_with fail
  refine (put_u n _ S rfl w1).mono ?_
  rintro e w5 ⟨xa, xl, xc, rfl, hx, b2⟩
  have hx0 := hx.1
  rw [hpl] at hx0
  obtain rfl : xl = 0 := by simpa [cellsOf] using hx0.symm
  have cp := on b1 b2
  clear b1 b2 hx hx0 hpl hp
  go_wp2_with (go_at_call 19; refine (num_any _ _).mono ?_; rintro e w9 ⟨rfl, rfl⟩)
  have t0 : s.data.toList.length = s.size := by simp
  obtain ⟨t1, t2⟩ := Oct.textE_zero ht
  obtain ⟨r1, r2, r3⟩ := Oct.read_behind l s.data.toList ht
  rw [t0] at t1 t2 r3
  rw [t2, hl] at r1 r2 r3
  have R1 : Hid _ := r1
  have R2 : Hid _ := r2
  have R3 : Hid _ := r3
  clear r1 r2 r3 t2 t0
  refine (text_ok s w5 t1).mono ?_
  rintro e w6 ⟨ta, tc, rfl, ho6, b6⟩
  have c6 := on cp b6
  clear cp b6
  go_wp2_with (go_at_call 19; refine (num_any _ _).mono ?_; rintro e w9 ⟨rfl, rfl⟩)
  refine (copy_u w6 a len cap l (by omega) HN.out (hB.below c6)).mono ?_
  rintro e w7 ⟨b, d, rfl, hown, b7⟩
  have hX := (owns_isB ho6).1.below b7
  have hXn := (owns_isB ho6).2.2
  have c7 := on c6 b7
  have hz3 := b7.size
  have hz2 := c6.size
  clear ho6 b7 c6
  go_wp2_with (at_builtin; refine append_two rfl _ _ rfl w6.heap.size _ len l rfl hown _ (1 + s.size) tc _ rfl hX hXn (by omega) hz3 ?_)
  intro b8 d8 w8 hown8 hg8
  have c8 : Below w.heap.size w w8 := c7.grown hg8 (c7.size) (fun k hk => Nat.le_trans hz2 (own_base hown k hk))
  clear hown hg8 c7 hX hz3 hz2
  go_wp2_with fail
  refine (read_u w8 b8 (len + (1 + s.size)) d8 (l ++ UInt8.ofNat s.size :: s.data.toList) _ (by omega) (by unfold maxLen; omega) (owns_isB hown8).2.1 (owns_isB hown8).1).mono ?_
  rintro e w10 ⟨rfl, b10⟩
  rw [R1.out, R2.out, R3.out]
  have hend : ((len + 1 + s.size : Nat) : Int) = (len : Int) + ((1 + s.size : Nat) : Int) := by omega
  have HE : Hid _ := hend
  have cq := on c8 b10
  clear c8 b10 hown8 hend
  go_wp2_with (go_at_call 19; refine (num_any _ _).mono ?_; rintro e w9 ⟨rfl, rfl⟩)
  go_ret
  exact ⟨back_end s len, cq⟩

set_option maxHeartbeats 1600000 in
theorem back_n_f (n : Nat) (S : Int) (s : ByteArray) (a : Option Addr) (len cap : Nat) (l : List UInt8) (w : World) (hn : n < 18446744073709551616) (hs : s.size ≤ maxLen) (hB : IsB w a len l) (hlen : len ≤ 140737488351232) (hcap : len ≤ cap) (hnil : a = none → cap = 0) (hp : Oct.putE n S ≠ 0) (ht : Oct.textE s.data.toList ≠ 0) :
    Calls Try.prog 5 #[.int .u64 n, .int .i64 S, .string s, .slice a len cap] w fun e w' => e = .returned (.bool true) ∧ Below w.heap.size w w' := by
  have hm : len ≤ 9223372036854775807 := by omega
  have hl : l.length = len := hB.1
  have HN : Hid (a = none → cap = 0) := hnil
  clear hnil
  have hpl := Oct.putE_other hp
  have hp0 : (Oct.putE n S == 0) = false := beq_eq_false_iff_ne.2 hp
  go_enter Try.func5, Try.ntmps5
  go_wp2_with fail
  refine (alive_any w).mono ?_
  rintro e w1 ⟨rfl, b1⟩
  go_wp2_with fail
  refine (put_u n _ S rfl w1).mono ?_
  rintro e w5 ⟨xa, xl, xc, rfl, hx, b2⟩
  have hx0 := hx.1
  rw [hpl] at hx0
  obtain rfl : xl = 0 := by simpa [cellsOf] using hx0.symm
  have cp := on b1 b2
  clear b1 b2 hx hx0 hpl hp
  go_wp2_with (go_at_call 19; refine (num_any _ _).mono ?_; rintro e w9 ⟨rfl, rfl⟩)
  have htl := Oct.textE_other ht
  have ht0 : (Oct.textE s.data.toList != 0) = true := bne_iff_ne.2 ht
  refine (text_u s w5 hs).mono ?_
  rintro e w6 ⟨ta, tl, tc, rfl, ho6, b6⟩
  have hx0 := ho6.1
  rw [htl] at hx0
  obtain rfl : tl = 0 := by simpa [cellsOf] using hx0.symm
  have c6 := on cp b6
  clear cp b6 ho6 hx0 htl ht
  go_wp2_with (go_at_call 19; refine (num_any _ _).mono ?_; rintro e w9 ⟨rfl, rfl⟩)
  go_ret
  exact ⟨rfl, c6⟩

theorem back_walk (a0 : Int) (a1 : Int) (a2 : ByteArray) (a3 : Option Addr) (len3 cap3 : Nat) (z3 : List Int) (w : World) (w0 : (Lit.int .u64 a0).wf = true) (w1 : (Lit.int .i64 a1).wf = true) (w2 : a2.size ≤ maxLen) (w3 : IsRow .u8 1 w a3 len3 cap3 z3) :
    Calls Try.prog 5 #[.int .u64 a0, .int .i64 a1, .string a2, .slice a3 len3 cap3] w fun e w' => e = .returned (.bool true) ∧ Below w.heap.size w w' := by
  obtain ⟨n, rfl, hn⟩ := wf_u64 w0
  obtain ⟨l, hB, h1, h2, h3⟩ := w3.octets
  by_cases hp : Oct.putE n a1 = 0
  · by_cases ht : Oct.textE a2.data.toList = 0
    · exact back_p_t n a1 a2 a3 len3 cap3 l w hn w2 hB h3 h1 h2 hp ht
    · exact back_p_f n a1 a2 a3 len3 cap3 l w hn w2 hB h3 h1 h2 hp ht
  · by_cases ht : Oct.textE a2.data.toList = 0
    · exact back_n_t n a1 a2 a3 len3 cap3 l w hn w2 hB h3 h1 h2 hp ht
    · exact back_n_f n a1 a2 a3 len3 cap3 l w hn w2 hB h3 h1 h2 hp ht

set_option maxRecDepth 100000 in
theorem back_lifted (os : Os) (started : os.Started) (H : Type) (enc : TypeId × Value → H) :
    ReturnsInHanded {} Try.checked os 5 .any (Rows.octetsBackSpec.pre6 enc Try.prog Try.f5 Rows.octetsBackRow.domain false) (Rows.octetsBackSpec.post enc Try.prog Try.f5 false true false false) := by
  refine returnsInHanded_of_change_sized (C := Try.checked) own started (by kernel_rfl) Try.func5
    (ChangeSpec.witness6 (enc := enc) (C := Try.checked) false ⟨#[], #[.int .u64 0, .int .i64 0, .string ByteArray.empty, .slice none 0 0], []⟩ 8 (by kernel_rfl) (by kernel_rfl) (by kernel_rfl) (by kernel_rfl)) ?_
  intro W base args ds gs before hval0 hW _ hsz0 _
  have hsz : (DataW.weightsEach Try.prog (Try.f5.params.toList ++ Rows.octetsBackSpec.plain.varTypes Try.prog) (ds ++ gs)).all (· ≤ reachBytes) = true := hsz0
  clear hsz0
  have hval : ∀ (j : Nat) t v, Try.f5.params[j]? = some t → args[j]? = some v → Value.okWide Try.prog W .any base t v := hval0
  have hW' := hW
  obtain ⟨p, q, hA0, hV, rfl, hfz, hnd⟩ := hW
  have hA : DataW.TrodAll enc Try.prog W 0 (fun _ => true) true Try.f5.params.toList args.toList ds p := hA0
  rw [Try.params5] at hA hval hsz
  obtain ⟨v0, vs0, d0, ds0, p0, q0, hargs, rfl, rfl, h0, r0⟩ := trodAll_cons hA
  obtain ⟨v1, vs1, d1, ds1, p1, q1, rfl, rfl, rfl, h1, r1⟩ := trodAll_cons r0
  obtain ⟨v2, vs2, d2, ds2, p2, q2, rfl, rfl, rfl, h2, r2⟩ := trodAll_cons r1
  obtain ⟨v3, vs3, d3, ds3, p3, q3, rfl, rfl, rfl, h3, r3⟩ := trodAll_cons r2
  obtain ⟨rfl, rfl, rfl⟩ := trodAll_nil r3
  obtain rfl : args = #[v0, v1, v2, v3] := by cases args; simp_all
  obtain ⟨rfl, rfl⟩ := trodVars_none hV
  obtain ⟨a0, rfl, rfl, rfl, w0⟩ := open_int Try.underlying22 (hval 0 22 v0 rfl rfl) h0
  obtain ⟨a1, rfl, rfl, rfl, w1⟩ := open_int Try.underlying3 (hval 1 3 v1 rfl rfl) h1
  obtain ⟨a2, rfl, rfl, rfl, w2⟩ := open_string Try.underlying9 (hval 2 9 v2 rfl rfl) h2
  obtain ⟨a3, len3, cap3, rfl⟩ := okWide_slice Try.underlying23 (hval 3 23 v3 rfl rfl)
  have k3 := h3
  have lt3 : ∀ x ∈ p3, x.block < W.heap.size := by obtain ⟨m, hm⟩ := k3; exact DataW.trod_lt m _ _ _ hm
  obtain ⟨z3, w3⟩ : ∃ zs, IsRow .u8 1 W a3 len3 cap3 zs := by
    obtain ⟨fuel, hf⟩ := h3
    rcases open_ints Try.underlying23 Try.underlying5 (by kernel_rfl) hf with ⟨hcs, _⟩ | ⟨x, l, c, zs, hcs, _, hl, hm, hz, hx, hcell, hwz⟩
    · simp [Value.cells] at hcs
      obtain ⟨rfl, rfl, rfl⟩ := hcs
      exact ⟨[], by simp, .inl ⟨rfl, rfl, rfl, rfl⟩⟩
    · simp [Value.cells] at hcs
      obtain ⟨rfl, rfl, rfl⟩ := hcs
      simp only [Prod.mk.injEq] at hx
      obtain ⟨rfl, rfl⟩ := hx
      simp only [if_true] at hz
      have hs := sized_slice hsz (j := 3) (t := 23) (e := 5) rfl rfl Try.underlying23
      rw [show Try.prog.bytesOf 5 = 1 from by kernel_rfl] at hs
      simp only [lits, List.length_map, List.length_take, List.length_drop, reachBytes] at hs
      exact ⟨zs, by omega, .inr ⟨_, rfl, hl, hm, hz, hcell, hwz⟩⟩
  clear hA0 hval0
  refine (back_walk a0 a1 a2 a3 len3 cap3 z3 W w0 w1 w2 w3).mono fun e W' ⟨he, bel⟩ => ?_
  subst he
  exact ⟨_, rfl, _, _, _, [], _, [], hW', trodAll_mk1 (shut_bool Try.underlying4 _), (trodAll_cons_mk (shut_int Try.underlying22 w0) (trodAll_cons_mk (shut_int Try.underlying3 w1) (trodAll_cons_mk (shut_string Try.underlying9 w2) (trodAll_cons_mk (Below.trod laidOut (by kernel_rfl) (of_decide_eq_true (by kernel_rfl)) k3 bel lt3) trodAll_mk0)))), rfl, bel.frame _, fun h => by cases h⟩

theorem octetsBack_holds : Rows.OctetsBackSaid :=
  OpenClaim.holds_of_wide 5 Try.f5 rfl rfl rfl rfl rfl rfl rfl ⟨rfl, rfl, rfl, rfl, rfl⟩ rfl rfl rfl rfl rfl (by kernel_rfl) Try.func5 (by kernel_rfl)
    (of_decide_eq_true (by kernel_rfl)) (by unfold Func.isWrapper; first | (rw [if_pos (by decide +kernel)]; kernel_rfl) | (rw [if_neg (by decide +kernel)]; exact ⟨rfl, rfl⟩))
    (fun os started H enc _ => back_lifted os started H enc)

end Go.Proofs.Ytomfplmkbdalhaa
