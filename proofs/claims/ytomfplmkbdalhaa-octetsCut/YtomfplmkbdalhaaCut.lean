/-
  The statement OctetsCut holds: for every lists of widths and numbers, every text and every place the law returns true and its arguments read as before. Conditions: none.
-/
import Derived.Test.YtomfplmkbdalhaaUnpacks
namespace Go.Proofs.Ytomfplmkbdalhaa
open Go.ChangeShapes Go.WideShapes Go.ChangeAt Go.RowKit
open Go.ChangeMaps (open_string shut_string)
set_option linter.unusedVariables false

theorem IsB.head {w : World} {a : Option Addr} {n : Nat} {l : List UInt8} (h : IsB w a n l) (k : Nat) (hk : k ≤ n) (hn : 0 < n) : IsB w a k (l.take k) := by
  have h1 := h.1
  refine ⟨by simp; omega, fun e => by have := h.2.1 e; omega, fun x hx j hj => ?_⟩
  have hj' : j < l.length := by simp at hj; omega
  rw [h.2.2 x hx j hj']
  simp

theorem isB_one (w : World) : IsB (w.alloc (.cells #[.int .u8 0] 5)) (some ⟨w.heap.size, 0, none⟩) 1 [0] := by
  refine ⟨rfl, fun (e : some _ = none) => (by cases e), fun x hx j hj => ?_⟩
  simp only [Option.some.injEq] at hx
  subst hx
  rw [Addr.add_lit, Nat.zero_add]
  match j, hj with
  | 0, _ => simp

theorem tmod_in (at' : Int) (n : Nat) (h : 0 < n) : -(n : Int) < at'.tmod n ∧ at'.tmod n < n := by
  have h1 := Int.tmod_lt_of_pos at' (show (0 : Int) < n by omega)
  have h2 := Int.lt_tmod_of_pos at' (show (0 : Int) < n by omega)
  exact ⟨h2, h1⟩

set_option maxHeartbeats 1600000 in
theorem cut_more_t (wa va : Option Addr) (n wc m vc : Nat) (W : List Int) (V : List Nat) (s : ByteArray) (P : Int) (w : World) (hn : n ≤ maxLen) (hm : m ≤ maxLen)
    (hW : IsN .i64 w wa n W) (hV : IsN .u64 w va m (V.map fun (v : Nat) => (v : Int))) (hs : s.size ≤ maxLen) (hp : Oct.packE W V = 0) (hpos : 0 < (Oct.packL W V).length) (ht : Oct.textE s.data.toList = 0) :
    Calls Try.prog 7 #[.slice wa n wc, .slice va m vc, .string s, .int .i64 P] w fun e w' => e = .returned (.bool true) ∧ Below w.heap.size w w' := by
  have q0 := Oct.unpack_cut hp
  have q1 := Oct.unpack_more hp 0
  have Q0 : Hid _ := q0
  have Q1 : Hid _ := q1
  have HP : Hid _ := hp
  have hpl := Oct.packL_length W V
  clear q0 q1 hp
  go_enter Try.func7, Try.ntmps7
  go_wp2_with fail
  refine (alive_any w).mono ?_
  rintro e w1 ⟨rfl, c1⟩
  go_wp2_with fail
  refine (pack_u w1 wa va n wc m vc W V hn hm (hW.below c1) (hV.below c1)).mono ?_
  rintro e w2 ⟨xa, xl, xc, rfl, hx, b2⟩
  have c2 := on c1 b2
  clear c1 b2
  rw [HP.out]
  have hxl : xl = (Oct.packL W V).length := owns_len hx
  have HXL : Hid _ := hxl
  have hx1 : 0 < xl := by omega
  have hx2 : xl ≤ 512 := by omega
  clear hxl hpos hpl
  obtain ⟨t1, t2⟩ := tmod_in P xl hx1
  have t3 : 0 ≤ P.tmod xl % xl := Int.emod_nonneg _ (by omega)
  have t4 : P.tmod xl % xl < xl := Int.emod_lt_of_pos _ (by omega)
  obtain ⟨hxB, hxc, hxn⟩ := owns_isB hx
  have HXN : Hid _ := hxn
  clear hxn
  have hne : ¬ (xl : Int) = 0 := by omega
  go_wp2_with (go_at_call 19; refine (num_any _ _).mono ?_; rintro e w9 ⟨rfl, rfl⟩)
  have hk : (P.tmod xl % xl).toNat < xl := by omega
  have hcut := Q0.out (P.tmod xl % xl).toNat (by have := HXL.out; omega)
  have HCUT : Hid _ := hcut
  clear hcut
  refine (unpack_u w2 wa xa n wc _ xc W _ hn (by omega) (hW.below c2) (hxB.head _ (by omega) hx1)).mono ?_
  rintro e w3 ⟨ua, ul, uc, rfl, hu, b3⟩
  rw [HCUT.out]
  have hx3 := owns_below hx b3
  have c3 := on c2 b3
  clear hu c2 b3 hx hxB
  go_wp2_with fail
  refine (copy_u w3 xa xl xc _ (by omega) HXN.out (owns_isB hx3).1).mono ?_
  rintro e w4 ⟨b, d, rfl, ho, b4⟩
  have c4 := on c3 b4
  have hz3 := c3.size
  have hz4 := b4.size
  clear c3 b4 hx3
  have hone := isB_one w4
  go_wp2_with (at_builtin; refine append_two rfl _ _ rfl w3.heap.size _ xl _ rfl (ho.alloc _) _ 1 1 _ rfl hone (fun e => by cases e) (by omega) (by simp; omega) ?_)
  intro b5 d5 w5 ho5 hg5
  have c5 : Below w.heap.size w w5 := (c4.alloc c4.size _).grown hg5 (by simp; omega) (fun k hk => Nat.le_trans hz3 (own_base ho k hk))
  clear ho hg5 hone c4 hz3 hz4
  go_wp2_with fail
  refine (unpack_u w5 wa b5 n wc (xl + 1) d5 W _ hn (by omega) (hW.below c5) (owns_isB ho5).1).mono ?_
  rintro e w6 ⟨va', vl, vc', rfl, hv6, b6⟩
  rw [Q1.out]
  have c6 := on c5 b6
  clear c5 b6 hv6 ho5
  go_wp2_with (go_at_call 19; refine (num_any _ _).mono ?_; rintro e w9 ⟨rfl, rfl⟩)
  have r0 := Oct.read_cut ht
  have R0 : Hid _ := r0
  have t0 : s.data.toList.length = s.size := by simp
  obtain ⟨y1, y2⟩ := Oct.textE_zero ht
  rw [t0] at y1 y2
  have Y2 : Hid _ := y2
  clear r0 y2 t0
  refine (text_ok s w6 y1).mono ?_
  rintro e w7 ⟨ta, tc, rfl, ho7, b7⟩
  have c7 := on c6 b7
  clear c6 b7
  obtain ⟨u1, u2⟩ := tmod_in P (1 + s.size) (by omega)
  have u3 : 0 ≤ P.tmod ((1 + s.size : Nat) : Int) % ((1 + s.size : Nat) : Int) := Int.emod_nonneg _ (by omega)
  have u4 : P.tmod ((1 + s.size : Nat) : Int) % ((1 + s.size : Nat) : Int) < ((1 + s.size : Nat) : Int) := Int.emod_lt_of_pos _ (by omega)
  obtain ⟨hB7, hcap, _⟩ := owns_isB ho7
  generalize hL : 1 + s.size = L at *
  have hL0 : 0 < L := by omega
  have hL1 : L ≤ 256 := by omega
  have HL : Hid _ := hL
  have hne : ¬ (L : Int) = 0 := by omega
  have hne2 : ((L : Int) == 0) = false := beq_eq_false_iff_ne.2 hne
  clear hL ho7
  go_wp2_with (go_at_call 19; refine (num_any _ _).mono ?_; rintro e w9 ⟨rfl, rfl⟩)
  have hk : (P.tmod L % L).toNat < L := by omega
  obtain ⟨r1, r2⟩ := R0.out (P.tmod L % L).toNat (by rw [Y2.out]; have := HL.out; simp; omega)
  rw [Y2.out] at r1 r2
  refine (read_u w7 ta _ tc _ 0 (by omega) (by unfold maxLen; omega) (by omega) (hB7.head _ (by omega) hL0)).mono ?_
  rintro e w8 ⟨rfl, b8⟩
  rw [r1, r2]
  have c8 := on c7 b8
  clear c7 b8 hB7 r1 r2
  go_wp2_with (go_at_call 19; refine (num_any _ _).mono ?_; rintro e w9 ⟨rfl, rfl⟩)
  go_ret
  exact ⟨rfl, c8⟩

set_option maxHeartbeats 1600000 in
theorem cut_more_f (wa va : Option Addr) (n wc m vc : Nat) (W : List Int) (V : List Nat) (s : ByteArray) (P : Int) (w : World) (hn : n ≤ maxLen) (hm : m ≤ maxLen)
    (hW : IsN .i64 w wa n W) (hV : IsN .u64 w va m (V.map fun (v : Nat) => (v : Int))) (hs : s.size ≤ maxLen) (hp : Oct.packE W V = 0) (hpos : 0 < (Oct.packL W V).length) (ht : Oct.textE s.data.toList ≠ 0) :
    Calls Try.prog 7 #[.slice wa n wc, .slice va m vc, .string s, .int .i64 P] w fun e w' => e = .returned (.bool true) ∧ Below w.heap.size w w' := by
  have q0 := Oct.unpack_cut hp
  have q1 := Oct.unpack_more hp 0
  have Q0 : Hid _ := q0
  have Q1 : Hid _ := q1
  have HP : Hid _ := hp
  have hpl := Oct.packL_length W V
  clear q0 q1 hp
  go_enter Try.func7, Try.ntmps7
  go_wp2_with fail
  refine (alive_any w).mono ?_
  rintro e w1 ⟨rfl, c1⟩
  go_wp2_with fail
  refine (pack_u w1 wa va n wc m vc W V hn hm (hW.below c1) (hV.below c1)).mono ?_
  rintro e w2 ⟨xa, xl, xc, rfl, hx, b2⟩
  have c2 := on c1 b2
  clear c1 b2
  rw [HP.out]
  have hxl : xl = (Oct.packL W V).length := owns_len hx
  have HXL : Hid _ := hxl
  have hx1 : 0 < xl := by omega
  have hx2 : xl ≤ 512 := by omega
  clear hxl hpos hpl
  obtain ⟨t1, t2⟩ := tmod_in P xl hx1
  have t3 : 0 ≤ P.tmod xl % xl := Int.emod_nonneg _ (by omega)
  have t4 : P.tmod xl % xl < xl := Int.emod_lt_of_pos _ (by omega)
  obtain ⟨hxB, hxc, hxn⟩ := owns_isB hx
  have HXN : Hid _ := hxn
  clear hxn
  have hne : ¬ (xl : Int) = 0 := by omega
  go_wp2_with (go_at_call 19; refine (num_any _ _).mono ?_; rintro e w9 ⟨rfl, rfl⟩)
  have hk : (P.tmod xl % xl).toNat < xl := by omega
  have hcut := Q0.out (P.tmod xl % xl).toNat (by have := HXL.out; omega)
  have HCUT : Hid _ := hcut
  clear hcut
  refine (unpack_u w2 wa xa n wc _ xc W _ hn (by omega) (hW.below c2) (hxB.head _ (by omega) hx1)).mono ?_
  rintro e w3 ⟨ua, ul, uc, rfl, hu, b3⟩
  rw [HCUT.out]
  have hx3 := owns_below hx b3
  have c3 := on c2 b3
  clear hu c2 b3 hx hxB
  go_wp2_with fail
  refine (copy_u w3 xa xl xc _ (by omega) HXN.out (owns_isB hx3).1).mono ?_
  rintro e w4 ⟨b, d, rfl, ho, b4⟩
  have c4 := on c3 b4
  have hz3 := c3.size
  have hz4 := b4.size
  clear c3 b4 hx3
  have hone := isB_one w4
  go_wp2_with (at_builtin; refine append_two rfl _ _ rfl w3.heap.size _ xl _ rfl (ho.alloc _) _ 1 1 _ rfl hone (fun e => by cases e) (by omega) (by simp; omega) ?_)
  intro b5 d5 w5 ho5 hg5
  have c5 : Below w.heap.size w w5 := (c4.alloc c4.size _).grown hg5 (by simp; omega) (fun k hk => Nat.le_trans hz3 (own_base ho k hk))
  clear ho hg5 hone c4 hz3 hz4
  go_wp2_with fail
  refine (unpack_u w5 wa b5 n wc (xl + 1) d5 W _ hn (by omega) (hW.below c5) (owns_isB ho5).1).mono ?_
  rintro e w6 ⟨va', vl, vc', rfl, hv6, b6⟩
  rw [Q1.out]
  have c6 := on c5 b6
  clear c5 b6 hv6 ho5
  go_wp2_with (go_at_call 19; refine (num_any _ _).mono ?_; rintro e w9 ⟨rfl, rfl⟩)
  have htl := Oct.textE_other ht
  have ht0 : (Oct.textE s.data.toList != 0) = true := bne_iff_ne.2 ht
  refine (text_u s w6 hs).mono ?_
  rintro e w7 ⟨ta, tl, tc, rfl, ho7, b7⟩
  have hx0 := owns_len ho7
  rw [htl] at hx0
  obtain rfl : tl = 0 := by simpa using hx0
  have c7 := on c6 b7
  clear c6 b7 ho7 hx0 htl ht
  go_wp2_with (go_at_call 19; refine (num_any _ _).mono ?_; rintro e w9 ⟨rfl, rfl⟩)
  go_ret
  exact ⟨rfl, c7⟩

set_option maxHeartbeats 1600000 in
theorem cut_none_t (wa va : Option Addr) (n wc m vc : Nat) (W : List Int) (V : List Nat) (s : ByteArray) (P : Int) (w : World) (hn : n ≤ maxLen) (hm : m ≤ maxLen)
    (hW : IsN .i64 w wa n W) (hV : IsN .u64 w va m (V.map fun (v : Nat) => (v : Int))) (hs : s.size ≤ maxLen) (hp : Oct.packE W V = 0) (hpos : (Oct.packL W V).length = 0) (ht : Oct.textE s.data.toList = 0) :
    Calls Try.prog 7 #[.slice wa n wc, .slice va m vc, .string s, .int .i64 P] w fun e w' => e = .returned (.bool true) ∧ Below w.heap.size w w' := by
  have HP : Hid _ := hp
  clear hp
  go_enter Try.func7, Try.ntmps7
  go_wp2_with fail
  refine (alive_any w).mono ?_
  rintro e w1 ⟨rfl, c1⟩
  go_wp2_with fail
  refine (pack_u w1 wa va n wc m vc W V hn hm (hW.below c1) (hV.below c1)).mono ?_
  rintro e w2 ⟨xa, xl, xc, rfl, hx, b2⟩
  have c2 := on c1 b2
  clear c1 b2
  rw [HP.out]
  have hxl : xl = (Oct.packL W V).length := owns_len hx
  rw [hpos] at hxl
  subst hxl
  clear hx
  go_wp2_with (go_at_call 19; refine (num_any _ _).mono ?_; rintro e w9 ⟨rfl, rfl⟩)
  have r0 := Oct.read_cut ht
  have R0 : Hid _ := r0
  have t0 : s.data.toList.length = s.size := by simp
  obtain ⟨y1, y2⟩ := Oct.textE_zero ht
  rw [t0] at y1 y2
  have Y2 : Hid _ := y2
  clear r0 y2 t0
  refine (text_ok s w2 y1).mono ?_
  rintro e w7 ⟨ta, tc, rfl, ho7, b7⟩
  have c7 := on c2 b7
  clear c2 b7
  obtain ⟨u1, u2⟩ := tmod_in P (1 + s.size) (by omega)
  have u3 : 0 ≤ P.tmod ((1 + s.size : Nat) : Int) % ((1 + s.size : Nat) : Int) := Int.emod_nonneg _ (by omega)
  have u4 : P.tmod ((1 + s.size : Nat) : Int) % ((1 + s.size : Nat) : Int) < ((1 + s.size : Nat) : Int) := Int.emod_lt_of_pos _ (by omega)
  obtain ⟨hB7, hcap, _⟩ := owns_isB ho7
  generalize hL : 1 + s.size = L at *
  have hL0 : 0 < L := by omega
  have hL1 : L ≤ 256 := by omega
  have HL : Hid _ := hL
  have hne : ¬ (L : Int) = 0 := by omega
  have hne2 : ((L : Int) == 0) = false := beq_eq_false_iff_ne.2 hne
  clear hL ho7
  go_wp2_with (go_at_call 19; refine (num_any _ _).mono ?_; rintro e w9 ⟨rfl, rfl⟩)
  have hk : (P.tmod L % L).toNat < L := by omega
  obtain ⟨r1, r2⟩ := R0.out (P.tmod L % L).toNat (by rw [Y2.out]; have := HL.out; simp; omega)
  rw [Y2.out] at r1 r2
  refine (read_u w7 ta _ tc _ 0 (by omega) (by unfold maxLen; omega) (by omega) (hB7.head _ (by omega) hL0)).mono ?_
  rintro e w8 ⟨rfl, b8⟩
  rw [r1, r2]
  have c8 := on c7 b8
  clear c7 b8 hB7 r1 r2
  go_wp2_with (go_at_call 19; refine (num_any _ _).mono ?_; rintro e w9 ⟨rfl, rfl⟩)
  go_ret
  exact ⟨rfl, c8⟩

set_option maxHeartbeats 1600000 in
theorem cut_none_f (wa va : Option Addr) (n wc m vc : Nat) (W : List Int) (V : List Nat) (s : ByteArray) (P : Int) (w : World) (hn : n ≤ maxLen) (hm : m ≤ maxLen)
    (hW : IsN .i64 w wa n W) (hV : IsN .u64 w va m (V.map fun (v : Nat) => (v : Int))) (hs : s.size ≤ maxLen) (hp : Oct.packE W V = 0) (hpos : (Oct.packL W V).length = 0) (ht : Oct.textE s.data.toList ≠ 0) :
    Calls Try.prog 7 #[.slice wa n wc, .slice va m vc, .string s, .int .i64 P] w fun e w' => e = .returned (.bool true) ∧ Below w.heap.size w w' := by
  have HP : Hid _ := hp
  clear hp
  go_enter Try.func7, Try.ntmps7
  go_wp2_with fail
  refine (alive_any w).mono ?_
  rintro e w1 ⟨rfl, c1⟩
  go_wp2_with fail
  refine (pack_u w1 wa va n wc m vc W V hn hm (hW.below c1) (hV.below c1)).mono ?_
  rintro e w2 ⟨xa, xl, xc, rfl, hx, b2⟩
  have c2 := on c1 b2
  clear c1 b2
  rw [HP.out]
  have hxl : xl = (Oct.packL W V).length := owns_len hx
  rw [hpos] at hxl
  subst hxl
  clear hx
  go_wp2_with (go_at_call 19; refine (num_any _ _).mono ?_; rintro e w9 ⟨rfl, rfl⟩)
  have htl := Oct.textE_other ht
  have ht0 : (Oct.textE s.data.toList != 0) = true := bne_iff_ne.2 ht
  refine (text_u s w2 hs).mono ?_
  rintro e w7 ⟨ta, tl, tc, rfl, ho7, b7⟩
  have hx0 := owns_len ho7
  rw [htl] at hx0
  obtain rfl : tl = 0 := by simpa using hx0
  have c7 := on c2 b7
  clear c2 b7 ho7 hx0 htl ht
  go_wp2_with (go_at_call 19; refine (num_any _ _).mono ?_; rintro e w9 ⟨rfl, rfl⟩)
  go_ret
  exact ⟨rfl, c7⟩

set_option maxHeartbeats 1600000 in
theorem cut_bad_t (wa va : Option Addr) (n wc m vc : Nat) (W : List Int) (V : List Nat) (s : ByteArray) (P : Int) (w : World) (hn : n ≤ maxLen) (hm : m ≤ maxLen)
    (hW : IsN .i64 w wa n W) (hV : IsN .u64 w va m (V.map fun (v : Nat) => (v : Int))) (hs : s.size ≤ maxLen) (hp : Oct.packE W V ≠ 0) (ht : Oct.textE s.data.toList = 0) :
    Calls Try.prog 7 #[.slice wa n wc, .slice va m vc, .string s, .int .i64 P] w fun e w' => e = .returned (.bool true) ∧ Below w.heap.size w w' := by
  have hp0 : (Oct.packE W V == 0) = false := beq_eq_false_iff_ne.2 hp
  go_enter Try.func7, Try.ntmps7
  go_wp2_with fail
  refine (alive_any w).mono ?_
  rintro e w1 ⟨rfl, c1⟩
  go_wp2_with fail
  refine (pack_u w1 wa va n wc m vc W V hn hm (hW.below c1) (hV.below c1)).mono ?_
  rintro e w2 ⟨xa, xl, xc, rfl, hx, b2⟩
  have c2 := on c1 b2
  clear c1 b2
  clear hx
  go_wp2_with (go_at_call 19; refine (num_any _ _).mono ?_; rintro e w9 ⟨rfl, rfl⟩)
  have r0 := Oct.read_cut ht
  have R0 : Hid _ := r0
  have t0 : s.data.toList.length = s.size := by simp
  obtain ⟨y1, y2⟩ := Oct.textE_zero ht
  rw [t0] at y1 y2
  have Y2 : Hid _ := y2
  clear r0 y2 t0
  refine (text_ok s w2 y1).mono ?_
  rintro e w7 ⟨ta, tc, rfl, ho7, b7⟩
  have c7 := on c2 b7
  clear c2 b7
  obtain ⟨u1, u2⟩ := tmod_in P (1 + s.size) (by omega)
  have u3 : 0 ≤ P.tmod ((1 + s.size : Nat) : Int) % ((1 + s.size : Nat) : Int) := Int.emod_nonneg _ (by omega)
  have u4 : P.tmod ((1 + s.size : Nat) : Int) % ((1 + s.size : Nat) : Int) < ((1 + s.size : Nat) : Int) := Int.emod_lt_of_pos _ (by omega)
  obtain ⟨hB7, hcap, _⟩ := owns_isB ho7
  generalize hL : 1 + s.size = L at *
  have hL0 : 0 < L := by omega
  have hL1 : L ≤ 256 := by omega
  have HL : Hid _ := hL
  have hne : ¬ (L : Int) = 0 := by omega
  have hne2 : ((L : Int) == 0) = false := beq_eq_false_iff_ne.2 hne
  clear hL ho7
  go_wp2_with (go_at_call 19; refine (num_any _ _).mono ?_; rintro e w9 ⟨rfl, rfl⟩)
  have hk : (P.tmod L % L).toNat < L := by omega
  obtain ⟨r1, r2⟩ := R0.out (P.tmod L % L).toNat (by rw [Y2.out]; have := HL.out; simp; omega)
  rw [Y2.out] at r1 r2
  refine (read_u w7 ta _ tc _ 0 (by omega) (by unfold maxLen; omega) (by omega) (hB7.head _ (by omega) hL0)).mono ?_
  rintro e w8 ⟨rfl, b8⟩
  rw [r1, r2]
  have c8 := on c7 b8
  clear c7 b8 hB7 r1 r2
  go_wp2_with (go_at_call 19; refine (num_any _ _).mono ?_; rintro e w9 ⟨rfl, rfl⟩)
  go_ret
  exact ⟨rfl, c8⟩

set_option maxHeartbeats 1600000 in
theorem cut_bad_f (wa va : Option Addr) (n wc m vc : Nat) (W : List Int) (V : List Nat) (s : ByteArray) (P : Int) (w : World) (hn : n ≤ maxLen) (hm : m ≤ maxLen)
    (hW : IsN .i64 w wa n W) (hV : IsN .u64 w va m (V.map fun (v : Nat) => (v : Int))) (hs : s.size ≤ maxLen) (hp : Oct.packE W V ≠ 0) (ht : Oct.textE s.data.toList ≠ 0) :
    Calls Try.prog 7 #[.slice wa n wc, .slice va m vc, .string s, .int .i64 P] w fun e w' => e = .returned (.bool true) ∧ Below w.heap.size w w' := by
  have hp0 : (Oct.packE W V == 0) = false := beq_eq_false_iff_ne.2 hp
  go_enter Try.func7, Try.ntmps7
  go_wp2_with fail
  refine (alive_any w).mono ?_
  rintro e w1 ⟨rfl, c1⟩
  go_wp2_with fail
  refine (pack_u w1 wa va n wc m vc W V hn hm (hW.below c1) (hV.below c1)).mono ?_
  rintro e w2 ⟨xa, xl, xc, rfl, hx, b2⟩
  have c2 := on c1 b2
  clear c1 b2
  clear hx
  go_wp2_with (go_at_call 19; refine (num_any _ _).mono ?_; rintro e w9 ⟨rfl, rfl⟩)
  have htl := Oct.textE_other ht
  have ht0 : (Oct.textE s.data.toList != 0) = true := bne_iff_ne.2 ht
  refine (text_u s w2 hs).mono ?_
  rintro e w7 ⟨ta, tl, tc, rfl, ho7, b7⟩
  have hx0 := owns_len ho7
  rw [htl] at hx0
  obtain rfl : tl = 0 := by simpa using hx0
  have c7 := on c2 b7
  clear c2 b7 ho7 hx0 htl ht
  go_wp2_with (go_at_call 19; refine (num_any _ _).mono ?_; rintro e w9 ⟨rfl, rfl⟩)
  go_ret
  exact ⟨rfl, c7⟩

theorem cut_walk (a0 : Option Addr) (len0 cap0 : Nat) (z0 : List Int) (a1 : Option Addr) (len1 cap1 : Nat) (z1 : List Int) (a2 : ByteArray) (a3 : Int) (w : World) (w0 : IsRow .i64 8 w a0 len0 cap0 z0) (w1 : IsRow .u64 8 w a1 len1 cap1 z1) (w2 : a2.size ≤ maxLen) (w3 : (Lit.int .i64 a3).wf = true) :
    Calls Try.prog 7 #[.slice a0 len0 cap0, .slice a1 len1 cap1, .string a2, .int .i64 a3] w fun e w' => e = .returned (.bool true) ∧ Below w.heap.size w w' := by
  obtain ⟨W, hW, h1, h2, _⟩ := w0.ints
  obtain ⟨V0, hV, h3, h4, h5⟩ := w1.ints
  obtain ⟨V, rfl, h6⟩ := nats_of V0 h5
  have b0 := w0.1
  have b1 := w1.1
  have m0 : len0 ≤ maxLen := by unfold maxLen; omega
  have m1 : len1 ≤ maxLen := by unfold maxLen; omega
  by_cases ht : Oct.textE a2.data.toList = 0
  · by_cases hp : Oct.packE W V = 0
    · by_cases hl : 0 < (Oct.packL W V).length
      · exact cut_more_t a0 a1 len0 cap0 len1 cap1 W V a2 a3 w m0 m1 hW hV w2 hp hl ht
      · exact cut_none_t a0 a1 len0 cap0 len1 cap1 W V a2 a3 w m0 m1 hW hV w2 hp (by omega) ht
    · exact cut_bad_t a0 a1 len0 cap0 len1 cap1 W V a2 a3 w m0 m1 hW hV w2 hp ht
  · by_cases hp : Oct.packE W V = 0
    · by_cases hl : 0 < (Oct.packL W V).length
      · exact cut_more_f a0 a1 len0 cap0 len1 cap1 W V a2 a3 w m0 m1 hW hV w2 hp hl ht
      · exact cut_none_f a0 a1 len0 cap0 len1 cap1 W V a2 a3 w m0 m1 hW hV w2 hp (by omega) ht
    · exact cut_bad_f a0 a1 len0 cap0 len1 cap1 W V a2 a3 w m0 m1 hW hV w2 hp ht

set_option maxRecDepth 100000 in
theorem cut_lifted (os : Os) (started : os.Started) (H : Type) (enc : TypeId × Value → H) :
    ReturnsInHanded {} Try.checked os 7 .any (Rows.octetsCutSpec.pre6 enc Try.prog Try.f7 Rows.octetsCutRow.domain false) (Rows.octetsCutSpec.post enc Try.prog Try.f7 false true false false) := by
  refine returnsInHanded_of_change_sized (C := Try.checked) own started (by kernel_rfl) Try.func7
    (ChangeSpec.witness6 (enc := enc) (C := Try.checked) false ⟨#[], #[.slice none 0 0, .slice none 0 0, .string ByteArray.empty, .int .i64 0], []⟩ 8 (by kernel_rfl) (by kernel_rfl) (by kernel_rfl) (by kernel_rfl)) ?_
  intro W base args ds gs before hval0 hW _ hsz0 _
  have hsz : (DataW.weightsEach Try.prog (Try.f7.params.toList ++ Rows.octetsCutSpec.plain.varTypes Try.prog) (ds ++ gs)).all (· ≤ reachBytes) = true := hsz0
  clear hsz0
  have hval : ∀ (j : Nat) t v, Try.f7.params[j]? = some t → args[j]? = some v → Value.okWide Try.prog W .any base t v := hval0
  have hW' := hW
  obtain ⟨p, q, hA0, hV, rfl, hfz, hnd⟩ := hW
  have hA : DataW.TrodAll enc Try.prog W 0 (fun _ => true) true Try.f7.params.toList args.toList ds p := hA0
  rw [Try.params7] at hA hval hsz
  obtain ⟨v0, vs0, d0, ds0, p0, q0, hargs, rfl, rfl, h0, r0⟩ := trodAll_cons hA
  obtain ⟨v1, vs1, d1, ds1, p1, q1, rfl, rfl, rfl, h1, r1⟩ := trodAll_cons r0
  obtain ⟨v2, vs2, d2, ds2, p2, q2, rfl, rfl, rfl, h2, r2⟩ := trodAll_cons r1
  obtain ⟨v3, vs3, d3, ds3, p3, q3, rfl, rfl, rfl, h3, r3⟩ := trodAll_cons r2
  obtain ⟨rfl, rfl, rfl⟩ := trodAll_nil r3
  obtain rfl : args = #[v0, v1, v2, v3] := by cases args; simp_all
  obtain ⟨rfl, rfl⟩ := trodVars_none hV
  obtain ⟨a0, len0, cap0, rfl⟩ := okWide_slice Try.underlying44 (hval 0 44 v0 rfl rfl)
  have k0 := h0
  have lt0 : ∀ x ∈ p0, x.block < W.heap.size := by obtain ⟨m, hm⟩ := k0; exact DataW.trod_lt m _ _ _ hm
  obtain ⟨z0, w0⟩ : ∃ zs, IsRow .i64 8 W a0 len0 cap0 zs := by
    obtain ⟨fuel, hf⟩ := h0
    rcases open_ints Try.underlying44 Try.underlying3 (by kernel_rfl) hf with ⟨hcs, _⟩ | ⟨x, l, c, zs, hcs, _, hl, hm, hz, hx, hcell, hwz⟩
    · simp [Value.cells] at hcs
      obtain ⟨rfl, rfl, rfl⟩ := hcs
      exact ⟨[], by simp, .inl ⟨rfl, rfl, rfl, rfl⟩⟩
    · simp [Value.cells] at hcs
      obtain ⟨rfl, rfl, rfl⟩ := hcs
      simp only [Prod.mk.injEq] at hx
      obtain ⟨rfl, rfl⟩ := hx
      simp only [if_true] at hz
      have hs := sized_slice hsz (j := 0) (t := 44) (e := 3) rfl rfl Try.underlying44
      rw [show Try.prog.bytesOf 3 = 8 from by kernel_rfl] at hs
      simp only [lits, List.length_map, List.length_take, List.length_drop, reachBytes] at hs
      exact ⟨zs, by omega, .inr ⟨_, rfl, hl, hm, hz, hcell, hwz⟩⟩
  obtain ⟨a1, len1, cap1, rfl⟩ := okWide_slice Try.underlying45 (hval 1 45 v1 rfl rfl)
  have k1 := h1
  have lt1 : ∀ x ∈ p1, x.block < W.heap.size := by obtain ⟨m, hm⟩ := k1; exact DataW.trod_lt m _ _ _ hm
  obtain ⟨z1, w1⟩ : ∃ zs, IsRow .u64 8 W a1 len1 cap1 zs := by
    obtain ⟨fuel, hf⟩ := h1
    rcases open_ints Try.underlying45 Try.underlying22 (by kernel_rfl) hf with ⟨hcs, _⟩ | ⟨x, l, c, zs, hcs, _, hl, hm, hz, hx, hcell, hwz⟩
    · simp [Value.cells] at hcs
      obtain ⟨rfl, rfl, rfl⟩ := hcs
      exact ⟨[], by simp, .inl ⟨rfl, rfl, rfl, rfl⟩⟩
    · simp [Value.cells] at hcs
      obtain ⟨rfl, rfl, rfl⟩ := hcs
      simp only [Prod.mk.injEq] at hx
      obtain ⟨rfl, rfl⟩ := hx
      simp only [if_true] at hz
      have hs := sized_slice hsz (j := 1) (t := 45) (e := 22) rfl rfl Try.underlying45
      rw [show Try.prog.bytesOf 22 = 8 from by kernel_rfl] at hs
      simp only [lits, List.length_map, List.length_take, List.length_drop, reachBytes] at hs
      exact ⟨zs, by omega, .inr ⟨_, rfl, hl, hm, hz, hcell, hwz⟩⟩
  obtain ⟨a2, rfl, rfl, rfl, w2⟩ := open_string Try.underlying9 (hval 2 9 v2 rfl rfl) h2
  obtain ⟨a3, rfl, rfl, rfl, w3⟩ := open_int Try.underlying3 (hval 3 3 v3 rfl rfl) h3
  clear hA0 hval0
  refine (cut_walk a0 len0 cap0 z0 a1 len1 cap1 z1 a2 a3 W w0 w1 w2 w3).mono fun e W' ⟨he, bel⟩ => ?_
  subst he
  exact ⟨_, rfl, _, _, _, [], _, [], hW', trodAll_mk1 (shut_bool Try.underlying4 _), (trodAll_cons_mk (Below.trod laidOut (by kernel_rfl) (of_decide_eq_true (by kernel_rfl)) k0 bel lt0) (trodAll_cons_mk (Below.trod laidOut (by kernel_rfl) (of_decide_eq_true (by kernel_rfl)) k1 bel lt1) (trodAll_cons_mk (shut_string Try.underlying9 w2) (trodAll_cons_mk (shut_int Try.underlying3 w3) trodAll_mk0)))), rfl, bel.frame _, fun h => by cases h⟩

theorem octetsCut_holds : Rows.OctetsCutSaid :=
  OpenClaim.holds_of_wide 7 Try.f7 rfl rfl rfl rfl rfl rfl rfl ⟨rfl, rfl, rfl, rfl, rfl⟩ rfl rfl rfl rfl rfl (by kernel_rfl) Try.func7 (by kernel_rfl)
    (of_decide_eq_true (by kernel_rfl)) (by unfold Func.isWrapper; first | (rw [if_pos (by decide +kernel)]; kernel_rfl) | (rw [if_neg (by decide +kernel)]; exact ⟨rfl, rfl⟩))
    (fun os started H enc _ => cut_lifted os started H enc)

end Go.Proofs.Ytomfplmkbdalhaa
