/-
  The statement OctetsUnpacks holds: for every lists of widths and numbers and every octets the law returns true and its arguments read as before. Conditions: none.
-/
import Derived.Test.YtomfplmkbdalhaaLists
import Derived.Test.YtomfplmkbdalhaaBack2
namespace Go.Proofs.Ytomfplmkbdalhaa
open Go.ChangeShapes Go.WideShapes Go.ChangeAt Go.RowKit
open Go.ChangeMaps (open_string shut_string)
set_option linter.unusedVariables false

theorem owns_len {w : World} {base n c : Nat} {a : Option Addr} {l : List UInt8} (h : w.ownsRow base 5 1 (.slice a n c) n (cellsOf l)) : n = l.length := by
  have := h.1; simpa [cellsOf] using this.symm

set_option maxHeartbeats 1600000 in
theorem unpacks_p_t (wa va ba : Option Addr) (n wc m vc len cap : Nat) (W : List Int) (V : List Nat) (l : List UInt8) (w : World) (hn : n ≤ maxLen) (hm : m ≤ maxLen)
    (hW : IsN .i64 w wa n W) (hV : IsN .u64 w va m (V.map fun (v : Nat) => (v : Int))) (hB : IsB w ba len l) (hlen : len ≤ 140737488351232) (hp : Oct.packE W V = 0) (hu0 : Oct.unpackE W l = 0) :
    Calls Try.prog 6 #[.slice wa n wc, .slice va m vc, .slice ba len cap] w fun e w' => e = .returned (.bool true) ∧ Below w.heap.size w w' := by
  obtain ⟨q1, q2⟩ := Oct.unpack_pack hp
  have Q1 : Hid _ := q1
  have Q2 : Hid _ := q2
  have HP : Hid _ := hp
  clear q1 q2 hp
  go_enter Try.func6, Try.ntmps6
  go_wp2_with fail
  refine (alive_any w).mono ?_
  rintro e w1 ⟨rfl, c1⟩
  go_wp2_with fail
  refine (pack_u w1 wa va n wc m vc W V hn hm (hW.below c1) (hV.below c1)).mono ?_
  rintro e w2 ⟨xa, xl, xc, rfl, hx, b2⟩
  have c2 := on c1 b2
  clear c1 b2
  rw [HP.out]
  have hxl : xl ≤ 512 := by have h1 := owns_len hx; have h2 := Oct.packL_length W V; omega
  go_wp2_with (go_at_call 19; refine (num_any _ _).mono ?_; rintro e w9 ⟨rfl, rfl⟩)
  refine (unpack_u w2 wa xa n wc xl xc W _ hn (by omega) (hW.below c2) (owns_isB hx).1).mono ?_
  rintro e w3 ⟨ua, ul, uc, rfl, hu, b3⟩
  rw [Q1.out]
  rw [Q2.out] at hu
  have c3 := on c2 b3
  clear c2 b3 hx
  have hul : ul = V.length := (owns_isN hu).2.2.2
  have HUL : Hid (ul ≤ maxLen) := by have h2 : V.length = m := by have := hV.1; simpa using this
                                     unfold Hid; omega
  clear hul
  go_wp2_with (go_at_call 19; refine (num_any _ _).mono ?_; rintro e w9 ⟨rfl, rfl⟩)
  refine (sameNums_any w3 _ _ _ _ _ _ _ _ HUL.out hm (owns_isN hu).1 (hV.below c3)).mono ?_
  rintro e w4 ⟨rfl, b4⟩
  rw [beq_self_eq_true]
  have c4 := on c3 b4
  clear c3 b4 hu
  go_wp2_with fail
  obtain ⟨r1, r2⟩ := Oct.pack_unpack hu0
  have R1 : Hid _ := r1
  have R2 : Hid _ := r2
  have HU0 : Hid _ := hu0
  clear r1 r2 hu0
  refine (unpack_u w4 wa ba n wc len cap W l hn (by omega) (hW.below c4) (hB.below c4)).mono ?_
  rintro e w5 ⟨ta, tl, tc, rfl, ht, b5⟩
  rw [HU0.out]
  have c5 := on c4 b5
  clear c4 b5
  have htl := unpackL_length W l
  have htl2 := (owns_isN ht).2.2.2
  have HT : Hid (tl ≤ maxLen) := by unfold Hid maxLen; omega
  clear htl htl2
  go_wp2_with (go_at_call 19; refine (num_any _ _).mono ?_; rintro e w9 ⟨rfl, rfl⟩)
  refine (pack_u w5 wa ta n wc tl tc W (Oct.unpackL W l) hn HT.out (hW.below c5) (owns_isN ht).1).mono ?_
  rintro e w6 ⟨ya, yl, yc, rfl, hy, b6⟩
  rw [R1.out]
  rw [R2.out] at hy
  have c6 := on c5 b6
  clear c5 b6 ht
  go_wp2_with (go_at_call 19; refine (num_any _ _).mono ?_; rintro e w9 ⟨rfl, rfl⟩)
  refine (sameBytes_any w6 _ _ _ _ _ _ _ _ (owns_isB hy).1 (hB.below c6)).mono ?_
  rintro e w9 ⟨rfl, rfl⟩
  rw [beq_self_eq_true]
  go_wp2
  go_ret
  exact ⟨rfl, c6⟩

set_option maxHeartbeats 1600000 in
theorem unpacks_p_f (wa va ba : Option Addr) (n wc m vc len cap : Nat) (W : List Int) (V : List Nat) (l : List UInt8) (w : World) (hn : n ≤ maxLen) (hm : m ≤ maxLen)
    (hW : IsN .i64 w wa n W) (hV : IsN .u64 w va m (V.map fun (v : Nat) => (v : Int))) (hB : IsB w ba len l) (hlen : len ≤ 140737488351232) (hp : Oct.packE W V = 0) (hu0 : Oct.unpackE W l ≠ 0) :
    Calls Try.prog 6 #[.slice wa n wc, .slice va m vc, .slice ba len cap] w fun e w' => e = .returned (.bool true) ∧ Below w.heap.size w w' := by
  obtain ⟨q1, q2⟩ := Oct.unpack_pack hp
  have Q1 : Hid _ := q1
  have Q2 : Hid _ := q2
  have HP : Hid _ := hp
  clear q1 q2 hp
  go_enter Try.func6, Try.ntmps6
  go_wp2_with fail
  refine (alive_any w).mono ?_
  rintro e w1 ⟨rfl, c1⟩
  go_wp2_with fail
  refine (pack_u w1 wa va n wc m vc W V hn hm (hW.below c1) (hV.below c1)).mono ?_
  rintro e w2 ⟨xa, xl, xc, rfl, hx, b2⟩
  have c2 := on c1 b2
  clear c1 b2
  rw [HP.out]
  have hxl : xl ≤ 512 := by have h1 := owns_len hx; have h2 := Oct.packL_length W V; omega
  go_wp2_with (go_at_call 19; refine (num_any _ _).mono ?_; rintro e w9 ⟨rfl, rfl⟩)
  refine (unpack_u w2 wa xa n wc xl xc W _ hn (by omega) (hW.below c2) (owns_isB hx).1).mono ?_
  rintro e w3 ⟨ua, ul, uc, rfl, hu, b3⟩
  rw [Q1.out]
  rw [Q2.out] at hu
  have c3 := on c2 b3
  clear c2 b3 hx
  have hul : ul = V.length := (owns_isN hu).2.2.2
  have HUL : Hid (ul ≤ maxLen) := by have h2 : V.length = m := by have := hV.1; simpa using this
                                     unfold Hid; omega
  clear hul
  go_wp2_with (go_at_call 19; refine (num_any _ _).mono ?_; rintro e w9 ⟨rfl, rfl⟩)
  refine (sameNums_any w3 _ _ _ _ _ _ _ _ HUL.out hm (owns_isN hu).1 (hV.below c3)).mono ?_
  rintro e w4 ⟨rfl, b4⟩
  rw [beq_self_eq_true]
  have c4 := on c3 b4
  clear c3 b4 hu
  go_wp2_with fail
  have hul := Oct.unpackL_other hu0
  have hu1 : (Oct.unpackE W l != 0) = true := bne_iff_ne.2 hu0
  refine (unpack_u w4 wa ba n wc len cap W l hn (by omega) (hW.below c4) (hB.below c4)).mono ?_
  rintro e w5 ⟨ta, tl, tc, rfl, ht, b5⟩
  have c5 := on c4 b5
  have htl2 := (owns_isN ht).2.2.2
  rw [hul] at htl2
  obtain rfl : tl = 0 := by simpa using htl2
  clear c4 b5 ht htl2 hul hu0
  go_wp2_with (go_at_call 19; refine (num_any _ _).mono ?_; rintro e w9 ⟨rfl, rfl⟩)
  go_ret
  exact ⟨rfl, c5⟩

set_option maxHeartbeats 1600000 in
theorem unpacks_n_t (wa va ba : Option Addr) (n wc m vc len cap : Nat) (W : List Int) (V : List Nat) (l : List UInt8) (w : World) (hn : n ≤ maxLen) (hm : m ≤ maxLen)
    (hW : IsN .i64 w wa n W) (hV : IsN .u64 w va m (V.map fun (v : Nat) => (v : Int))) (hB : IsB w ba len l) (hlen : len ≤ 140737488351232) (hp : Oct.packE W V ≠ 0) (hu0 : Oct.unpackE W l = 0) :
    Calls Try.prog 6 #[.slice wa n wc, .slice va m vc, .slice ba len cap] w fun e w' => e = .returned (.bool true) ∧ Below w.heap.size w w' := by
  have hp0 : (Oct.packE W V == 0) = false := beq_eq_false_iff_ne.2 hp
  go_enter Try.func6, Try.ntmps6
  go_wp2_with fail
  refine (alive_any w).mono ?_
  rintro e w1 ⟨rfl, c1⟩
  go_wp2_with fail
  refine (pack_u w1 wa va n wc m vc W V hn hm (hW.below c1) (hV.below c1)).mono ?_
  rintro e w2 ⟨xa, xl, xc, rfl, hx, b2⟩
  have c2 := on c1 b2
  clear c1 b2
  clear hx
  go_wp2_with (go_at_call 19; refine (num_any _ _).mono ?_; rintro e w9 ⟨rfl, rfl⟩)
  obtain ⟨r1, r2⟩ := Oct.pack_unpack hu0
  have R1 : Hid _ := r1
  have R2 : Hid _ := r2
  have HU0 : Hid _ := hu0
  clear r1 r2 hu0
  refine (unpack_u w2 wa ba n wc len cap W l hn (by omega) (hW.below c2) (hB.below c2)).mono ?_
  rintro e w5 ⟨ta, tl, tc, rfl, ht, b5⟩
  rw [HU0.out]
  have c5 := on c2 b5
  clear c2 b5
  have htl := unpackL_length W l
  have htl2 := (owns_isN ht).2.2.2
  have HT : Hid (tl ≤ maxLen) := by unfold Hid maxLen; omega
  clear htl htl2
  go_wp2_with (go_at_call 19; refine (num_any _ _).mono ?_; rintro e w9 ⟨rfl, rfl⟩)
  refine (pack_u w5 wa ta n wc tl tc W (Oct.unpackL W l) hn HT.out (hW.below c5) (owns_isN ht).1).mono ?_
  rintro e w6 ⟨ya, yl, yc, rfl, hy, b6⟩
  rw [R1.out]
  rw [R2.out] at hy
  have c6 := on c5 b6
  clear c5 b6 ht
  go_wp2_with (go_at_call 19; refine (num_any _ _).mono ?_; rintro e w9 ⟨rfl, rfl⟩)
  refine (sameBytes_any w6 _ _ _ _ _ _ _ _ (owns_isB hy).1 (hB.below c6)).mono ?_
  rintro e w9 ⟨rfl, rfl⟩
  rw [beq_self_eq_true]
  go_wp2
  go_ret
  exact ⟨rfl, c6⟩

set_option maxHeartbeats 1600000 in
theorem unpacks_n_f (wa va ba : Option Addr) (n wc m vc len cap : Nat) (W : List Int) (V : List Nat) (l : List UInt8) (w : World) (hn : n ≤ maxLen) (hm : m ≤ maxLen)
    (hW : IsN .i64 w wa n W) (hV : IsN .u64 w va m (V.map fun (v : Nat) => (v : Int))) (hB : IsB w ba len l) (hlen : len ≤ 140737488351232) (hp : Oct.packE W V ≠ 0) (hu0 : Oct.unpackE W l ≠ 0) :
    Calls Try.prog 6 #[.slice wa n wc, .slice va m vc, .slice ba len cap] w fun e w' => e = .returned (.bool true) ∧ Below w.heap.size w w' := by
  have hp0 : (Oct.packE W V == 0) = false := beq_eq_false_iff_ne.2 hp
  go_enter Try.func6, Try.ntmps6
  go_wp2_with fail
  refine (alive_any w).mono ?_
  rintro e w1 ⟨rfl, c1⟩
  go_wp2_with fail
  refine (pack_u w1 wa va n wc m vc W V hn hm (hW.below c1) (hV.below c1)).mono ?_
  rintro e w2 ⟨xa, xl, xc, rfl, hx, b2⟩
  have c2 := on c1 b2
  clear c1 b2
  clear hx
  go_wp2_with (go_at_call 19; refine (num_any _ _).mono ?_; rintro e w9 ⟨rfl, rfl⟩)
  have hul := Oct.unpackL_other hu0
  have hu1 : (Oct.unpackE W l != 0) = true := bne_iff_ne.2 hu0
  refine (unpack_u w2 wa ba n wc len cap W l hn (by omega) (hW.below c2) (hB.below c2)).mono ?_
  rintro e w5 ⟨ta, tl, tc, rfl, ht, b5⟩
  have c5 := on c2 b5
  have htl2 := (owns_isN ht).2.2.2
  rw [hul] at htl2
  obtain rfl : tl = 0 := by simpa using htl2
  clear c2 b5 ht htl2 hul hu0
  go_wp2_with (go_at_call 19; refine (num_any _ _).mono ?_; rintro e w9 ⟨rfl, rfl⟩)
  go_ret
  exact ⟨rfl, c5⟩

theorem unpacks_walk (a0 : Option Addr) (len0 cap0 : Nat) (z0 : List Int) (a1 : Option Addr) (len1 cap1 : Nat) (z1 : List Int) (a2 : Option Addr) (len2 cap2 : Nat) (z2 : List Int) (w : World) (w0 : IsRow .i64 8 w a0 len0 cap0 z0) (w1 : IsRow .u64 8 w a1 len1 cap1 z1) (w2 : IsRow .u8 1 w a2 len2 cap2 z2) :
    Calls Try.prog 6 #[.slice a0 len0 cap0, .slice a1 len1 cap1, .slice a2 len2 cap2] w fun e w' => e = .returned (.bool true) ∧ Below w.heap.size w w' := by
  obtain ⟨W, hW, h1, h2, _⟩ := w0.ints
  obtain ⟨V0, hV, h3, h4, h5⟩ := w1.ints
  obtain ⟨V, rfl, h6⟩ := nats_of V0 h5
  obtain ⟨l, hB, h7, h8, h9⟩ := w2.octets
  have b0 := w0.1
  have b1 := w1.1
  have m0 : len0 ≤ maxLen := by unfold maxLen; omega
  have m1 : len1 ≤ maxLen := by unfold maxLen; omega
  by_cases hp : Oct.packE W V = 0
  · by_cases hu : Oct.unpackE W l = 0
    · exact unpacks_p_t a0 a1 a2 len0 cap0 len1 cap1 len2 cap2 W V l w m0 m1 hW hV hB h9 hp hu
    · exact unpacks_p_f a0 a1 a2 len0 cap0 len1 cap1 len2 cap2 W V l w m0 m1 hW hV hB h9 hp hu
  · by_cases hu : Oct.unpackE W l = 0
    · exact unpacks_n_t a0 a1 a2 len0 cap0 len1 cap1 len2 cap2 W V l w m0 m1 hW hV hB h9 hp hu
    · exact unpacks_n_f a0 a1 a2 len0 cap0 len1 cap1 len2 cap2 W V l w m0 m1 hW hV hB h9 hp hu

set_option maxRecDepth 100000 in
theorem unpacks_lifted (os : Os) (started : os.Started) (H : Type) (enc : TypeId × Value → H) :
    ReturnsInHanded {} Try.checked os 6 .any (Rows.octetsUnpacksSpec.pre6 enc Try.prog Try.f6 Rows.octetsUnpacksRow.domain false) (Rows.octetsUnpacksSpec.post enc Try.prog Try.f6 false true false false) := by
  refine returnsInHanded_of_change_sized (C := Try.checked) own started (by kernel_rfl) Try.func6
    (ChangeSpec.witness6 (enc := enc) (C := Try.checked) false ⟨#[], #[.slice none 0 0, .slice none 0 0, .slice none 0 0], []⟩ 8 (by kernel_rfl) (by kernel_rfl) (by kernel_rfl) (by kernel_rfl)) ?_
  intro W base args ds gs before hval0 hW _ hsz0 _
  have hsz : (DataW.weightsEach Try.prog (Try.f6.params.toList ++ Rows.octetsUnpacksSpec.plain.varTypes Try.prog) (ds ++ gs)).all (· ≤ reachBytes) = true := hsz0
  clear hsz0
  have hval : ∀ (j : Nat) t v, Try.f6.params[j]? = some t → args[j]? = some v → Value.okWide Try.prog W .any base t v := hval0
  have hW' := hW
  obtain ⟨p, q, hA0, hV, rfl, hfz, hnd⟩ := hW
  have hA : DataW.TrodAll enc Try.prog W 0 (fun _ => true) true Try.f6.params.toList args.toList ds p := hA0
  rw [Try.params6] at hA hval hsz
  obtain ⟨v0, vs0, d0, ds0, p0, q0, hargs, rfl, rfl, h0, r0⟩ := trodAll_cons hA
  obtain ⟨v1, vs1, d1, ds1, p1, q1, rfl, rfl, rfl, h1, r1⟩ := trodAll_cons r0
  obtain ⟨v2, vs2, d2, ds2, p2, q2, rfl, rfl, rfl, h2, r2⟩ := trodAll_cons r1
  obtain ⟨rfl, rfl, rfl⟩ := trodAll_nil r2
  obtain rfl : args = #[v0, v1, v2] := by cases args; simp_all
  obtain ⟨rfl, rfl⟩ := trodVars_none hV
  obtain ⟨a0, len0, cap0, rfl⟩ := okWide_slice Try.underlying44 (hval 0 44 v0 rfl rfl)
  have k0 := h0
  have lt0 : ∀ x ∈ p0, x.block < W.heap.size := by obtain ⟨m, hm⟩ := k0; exact DataW.trod_lt m _ _ _ hm
  obtain ⟨z0, w0⟩ : ∃ zs, IsRow .i64 8 W a0 len0 cap0 zs := by
    obtain ⟨fuel, hf⟩ := h0
    rcases open_ints Try.underlying44 Try.underlying3 (by kernel_rfl) hf with ⟨hcs, _⟩ | ⟨x, l, c, zs, hcs, _, hl, hm, hz, hx, hcell, hwz⟩
    · simp [Value.cells] at hcs
      obtain ⟨rfl, rfl, rfl⟩ := hcs
      exact ⟨[], by simp, .inl ⟨rfl, rfl, rfl, rfl⟩⟩
    · simp [Value.cells] at hcs
      obtain ⟨rfl, rfl, rfl⟩ := hcs
      simp only [Prod.mk.injEq] at hx
      obtain ⟨rfl, rfl⟩ := hx
      simp only [if_true] at hz
      have hs := sized_slice hsz (j := 0) (t := 44) (e := 3) rfl rfl Try.underlying44
      rw [show Try.prog.bytesOf 3 = 8 from by kernel_rfl] at hs
      simp only [lits, List.length_map, List.length_take, List.length_drop, reachBytes] at hs
      exact ⟨zs, by omega, .inr ⟨_, rfl, hl, hm, hz, hcell, hwz⟩⟩
  obtain ⟨a1, len1, cap1, rfl⟩ := okWide_slice Try.underlying45 (hval 1 45 v1 rfl rfl)
  have k1 := h1
  have lt1 : ∀ x ∈ p1, x.block < W.heap.size := by obtain ⟨m, hm⟩ := k1; exact DataW.trod_lt m _ _ _ hm
  obtain ⟨z1, w1⟩ : ∃ zs, IsRow .u64 8 W a1 len1 cap1 zs := by
    obtain ⟨fuel, hf⟩ := h1
    rcases open_ints Try.underlying45 Try.underlying22 (by kernel_rfl) hf with ⟨hcs, _⟩ | ⟨x, l, c, zs, hcs, _, hl, hm, hz, hx, hcell, hwz⟩
    · simp [Value.cells] at hcs
      obtain ⟨rfl, rfl, rfl⟩ := hcs
      exact ⟨[], by simp, .inl ⟨rfl, rfl, rfl, rfl⟩⟩
    · simp [Value.cells] at hcs
      obtain ⟨rfl, rfl, rfl⟩ := hcs
      simp only [Prod.mk.injEq] at hx
      obtain ⟨rfl, rfl⟩ := hx
      simp only [if_true] at hz
      have hs := sized_slice hsz (j := 1) (t := 45) (e := 22) rfl rfl Try.underlying45
      rw [show Try.prog.bytesOf 22 = 8 from by kernel_rfl] at hs
      simp only [lits, List.length_map, List.length_take, List.length_drop, reachBytes] at hs
      exact ⟨zs, by omega, .inr ⟨_, rfl, hl, hm, hz, hcell, hwz⟩⟩
  obtain ⟨a2, len2, cap2, rfl⟩ := okWide_slice Try.underlying23 (hval 2 23 v2 rfl rfl)
  have k2 := h2
  have lt2 : ∀ x ∈ p2, x.block < W.heap.size := by obtain ⟨m, hm⟩ := k2; exact DataW.trod_lt m _ _ _ hm
  obtain ⟨z2, w2⟩ : ∃ zs, IsRow .u8 1 W a2 len2 cap2 zs := by
    obtain ⟨fuel, hf⟩ := h2
    rcases open_ints Try.underlying23 Try.underlying5 (by kernel_rfl) hf with ⟨hcs, _⟩ | ⟨x, l, c, zs, hcs, _, hl, hm, hz, hx, hcell, hwz⟩
    · simp [Value.cells] at hcs
      obtain ⟨rfl, rfl, rfl⟩ := hcs
      exact ⟨[], by simp, .inl ⟨rfl, rfl, rfl, rfl⟩⟩
    · simp [Value.cells] at hcs
      obtain ⟨rfl, rfl, rfl⟩ := hcs
      simp only [Prod.mk.injEq] at hx
      obtain ⟨rfl, rfl⟩ := hx
      simp only [if_true] at hz
      have hs := sized_slice hsz (j := 2) (t := 23) (e := 5) rfl rfl Try.underlying23
      rw [show Try.prog.bytesOf 5 = 1 from by kernel_rfl] at hs
      simp only [lits, List.length_map, List.length_take, List.length_drop, reachBytes] at hs
      exact ⟨zs, by omega, .inr ⟨_, rfl, hl, hm, hz, hcell, hwz⟩⟩
  clear hA0 hval0
  refine (unpacks_walk a0 len0 cap0 z0 a1 len1 cap1 z1 a2 len2 cap2 z2 W w0 w1 w2).mono fun e W' ⟨he, bel⟩ => ?_
  subst he
  exact ⟨_, rfl, _, _, _, [], _, [], hW', trodAll_mk1 (shut_bool Try.underlying4 _), (trodAll_cons_mk (Below.trod laidOut (by kernel_rfl) (of_decide_eq_true (by kernel_rfl)) k0 bel lt0) (trodAll_cons_mk (Below.trod laidOut (by kernel_rfl) (of_decide_eq_true (by kernel_rfl)) k1 bel lt1) (trodAll_cons_mk (Below.trod laidOut (by kernel_rfl) (of_decide_eq_true (by kernel_rfl)) k2 bel lt2) trodAll_mk0))), rfl, bel.frame _, fun h => by cases h⟩

theorem octetsUnpacks_holds : Rows.OctetsUnpacksSaid :=
  OpenClaim.holds_of_wide 6 Try.f6 rfl rfl rfl rfl rfl rfl rfl ⟨rfl, rfl, rfl, rfl, rfl⟩ rfl rfl rfl rfl rfl (by kernel_rfl) Try.func6 (by kernel_rfl)
    (of_decide_eq_true (by kernel_rfl)) (by unfold Func.isWrapper; first | (rw [if_pos (by decide +kernel)]; kernel_rfl) | (rw [if_neg (by decide +kernel)]; exact ⟨rfl, rfl⟩))
    (fun os started H enc _ => unpacks_lifted os started H enc)

end Go.Proofs.Ytomfplmkbdalhaa
