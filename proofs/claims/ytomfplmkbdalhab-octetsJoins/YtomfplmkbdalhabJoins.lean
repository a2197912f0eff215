/-
  The statement OctetsJoins holds: for every four lists the law returns true and its arguments read as before. Conditions: none.
-/
import Derived.Test.YtomfplmkbdalhabPack
import Derived.RegionTactic
namespace Go.Proofs.Ytomfplmkbdalhab
open Go.ChangeShapes Go.WideShapes Go.ChangeAt Go.RowKit
open Go.ChangeMaps (open_string shut_string)
set_option linter.unusedVariables false

theorem owns_grown2 {w w1 : World} {base n e s : Nat} {v : Value} {xs : List Value} {row : Option Nat} (h : w.ownsRow base e s v n xs) (hg : w.grownBy w1 row) (hr : ∀ k, row = some k → v.ownBlock ≠ some k) : w1.ownsRow base e s v n xs := by
  obtain ⟨h1, h2⟩ := h
  refine ⟨h1, ?_⟩
  rcases h2 with h2 | ⟨g, cap, cur, hv, hgb, hh, r⟩
  · exact .inl h2
  · refine .inr ⟨g, cap, cur, hv, hgb, ?_, r⟩
    have hlt : g < w.heap.size := by
      by_cases hx : g < w.heap.size
      · exact hx
      · rw [Array.getElem?_eq_none (by omega)] at hh; cases hh
    rw [hg.block g hlt (fun e => hr g e.symm (by rw [hv]; rfl))]; exact hh

theorem own_lt {w : World} {base n e s : Nat} {v : Value} {xs : List Value} (h : w.ownsRow base e s v n xs) : ∀ k, v.ownBlock = some k → k < w.heap.size := by
  intro k hk
  rcases h.2 with ⟨rfl, _⟩ | ⟨g, cap, cur, rfl, hb, hh, _⟩
  · cases hk
  · cases hk
    by_cases hx : g < w.heap.size
    · exact hx
    · rw [Array.getElem?_eq_none (by omega)] at hh; cases hh

theorem owns_len {w : World} {base n c : Nat} {a : Option Addr} {l : List UInt8} (h : w.ownsRow base 5 1 (.slice a n c) n (cellsOf l)) : n = l.length := by
  have := h.1; simpa [cellsOf] using this.symm

theorem own_empty (w : World) (e : TypeId) (q : IntKind) : (w.alloc (.cells #[] e)).ownsRow w.heap.size e 1 (.slice (some ⟨w.heap.size, 0, none⟩) 0 0) 0 (([] : List Int).map (Value.int q)) :=
  World.ownsRow_lit (base := w.heap.size) (e := e) (size := 1) w #[] 0 (Nat.le_refl _) (by decide) rfl

theorem info_int : (Try.prog.info? 3).map (fun i => (i.zero, i.size, i.bytes)) = some (some (.int .i64 0), 1, 8) := by kernel_rfl
theorem info_u64 : (Try.prog.info? 22).map (fun i => (i.zero, i.size, i.bytes)) = some (some (.int .u64 0), 1, 8) := by kernel_rfl

theorem IsN.head {k : IntKind} {w : World} {a : Option Addr} {n : Nat} {l : List Int} (h : IsN k w a n l) (m : Nat) (hm : m ≤ n) : IsN k w a m (l.take m) := by
  have h1 := h.1
  refine ⟨by simp; omega, fun e => by have := h.2.1 e; omega, fun x hx j hj => ?_⟩
  have hj' : j < l.length := by simp at hj; omega
  rw [h.2.2 x hx j hj']
  simp

theorem min_if (n : Nat) : (if (32 : Int) < (n : Int) then (32 : Int) else (n : Int)) = ((min n 32 : Nat) : Int) := by
  by_cases h : (32 : Int) < n
  · rw [if_pos h]; omega
  · rw [if_neg h]; omega

set_option maxHeartbeats 1600000 in
theorem joins_short1 (a0 a1 a2 a3 : Option Addr) (n0 c0 n1 c1 n2 c2 n3 c3 m0 m2 : Nat) (W P : List Int) (V Q : List Nat) (w : World) (hm0 : m0 = min n0 32) (hm2 : m2 = min n2 32) (hn0 : n0 ≤ 140737488351232) (hn2 : n2 ≤ 140737488351232) (hn1 : n1 ≤ 140737488351232) (hn3 : n3 ≤ 140737488351232)
    (hc0 : n0 ≤ c0) (hc1 : n1 ≤ c1) (hc2 : n2 ≤ c2) (hc3 : n3 ≤ c3) (z0 : a0 = none → c0 = 0) (z1 : a1 = none → c1 = 0) (z2 : a2 = none → c2 = 0) (z3 : a3 = none → c3 = 0)
    (hW : IsN .i64 w a0 n0 W) (hV : IsN .u64 w a1 n1 (V.map fun (v : Nat) => (v : Int))) (hP : IsN .i64 w a2 n2 P) (hQ : IsN .u64 w a3 n3 (Q.map fun (v : Nat) => (v : Int))) (hlt : n1 < m0) :
    Calls Try.prog 4 #[.slice a0 n0 c0, .slice a1 n1 c1, .slice a2 n2 c2, .slice a3 n3 c3] w fun e w' => e = .returned (.bool true) ∧ Below w.heap.size w w' := by
  have E0 := min_if n0
  have E2 := min_if n2
  rw [← hm0] at E0
  rw [← hm2] at E2
  have h01 : m0 ≤ n0 := by omega
  have h02 : m0 ≤ 32 := by omega
  have h21 : m2 ≤ n2 := by omega
  have h22 : m2 ≤ 32 := by omega
  have K0 : Hid _ := E0
  have K2 : Hid _ := E2
  have Z0 : Hid (a0 = none → c0 = 0) := z0
  have Z1 : Hid (a1 = none → c1 = 0) := z1
  have Z2 : Hid (a2 = none → c2 = 0) := z2
  have Z3 : Hid (a3 = none → c3 = 0) := z3
  clear E0 E2 hm0 hm2 z0 z1 z2 z3
  go_enter Try.func4, Try.ntmps4
  go_wp2_with (go_at_call 5; refine (alive_any w).mono ?_; rintro e w1 ⟨rfl, b1⟩)
  go_region
  rw [K0.out, K2.out]
  simp only [Int.toNat_natCast]
  go_wp2
  go_ret
  exact ⟨rfl, b1.drew⟩

set_option maxHeartbeats 1600000 in
theorem joins_short2 (a0 a1 a2 a3 : Option Addr) (n0 c0 n1 c1 n2 c2 n3 c3 m0 m2 : Nat) (W P : List Int) (V Q : List Nat) (w : World) (hm0 : m0 = min n0 32) (hm2 : m2 = min n2 32) (hn0 : n0 ≤ 140737488351232) (hn2 : n2 ≤ 140737488351232) (hn1 : n1 ≤ 140737488351232) (hn3 : n3 ≤ 140737488351232)
    (hc0 : n0 ≤ c0) (hc1 : n1 ≤ c1) (hc2 : n2 ≤ c2) (hc3 : n3 ≤ c3) (z0 : a0 = none → c0 = 0) (z1 : a1 = none → c1 = 0) (z2 : a2 = none → c2 = 0) (z3 : a3 = none → c3 = 0)
    (hW : IsN .i64 w a0 n0 W) (hV : IsN .u64 w a1 n1 (V.map fun (v : Nat) => (v : Int))) (hP : IsN .i64 w a2 n2 P) (hQ : IsN .u64 w a3 n3 (Q.map fun (v : Nat) => (v : Int))) (hge : m0 ≤ n1) (hlt : n3 < m2) :
    Calls Try.prog 4 #[.slice a0 n0 c0, .slice a1 n1 c1, .slice a2 n2 c2, .slice a3 n3 c3] w fun e w' => e = .returned (.bool true) ∧ Below w.heap.size w w' := by
  have E0 := min_if n0
  have E2 := min_if n2
  rw [← hm0] at E0
  rw [← hm2] at E2
  have h01 : m0 ≤ n0 := by omega
  have h02 : m0 ≤ 32 := by omega
  have h21 : m2 ≤ n2 := by omega
  have h22 : m2 ≤ 32 := by omega
  have K0 : Hid _ := E0
  have K2 : Hid _ := E2
  have Z0 : Hid (a0 = none → c0 = 0) := z0
  have Z1 : Hid (a1 = none → c1 = 0) := z1
  have Z2 : Hid (a2 = none → c2 = 0) := z2
  have Z3 : Hid (a3 = none → c3 = 0) := z3
  clear E0 E2 hm0 hm2 z0 z1 z2 z3
  go_enter Try.func4, Try.ntmps4
  go_wp2_with (go_at_call 5; refine (alive_any w).mono ?_; rintro e w1 ⟨rfl, b1⟩)
  go_region
  rw [K0.out, K2.out]
  simp only [Int.toNat_natCast]
  go_wp2
  go_ret
  exact ⟨rfl, b1.drew⟩

set_option maxHeartbeats 1600000 in
theorem joins_full (a0 a1 a2 a3 : Option Addr) (n0 c0 n1 c1 n2 c2 n3 c3 m0 m2 : Nat) (W P : List Int) (V Q : List Nat) (w : World) (hm0 : m0 = min n0 32) (hm2 : m2 = min n2 32) (hn0 : n0 ≤ 140737488351232) (hn2 : n2 ≤ 140737488351232) (hn1 : n1 ≤ 140737488351232) (hn3 : n3 ≤ 140737488351232)
    (hc0 : n0 ≤ c0) (hc1 : n1 ≤ c1) (hc2 : n2 ≤ c2) (hc3 : n3 ≤ c3) (z0 : a0 = none → c0 = 0) (z1 : a1 = none → c1 = 0) (z2 : a2 = none → c2 = 0) (z3 : a3 = none → c3 = 0)
    (hW : ∀ wx, Below w.heap.size w wx → IsN .i64 wx a0 m0 W) (hV : ∀ wx, Below w.heap.size w wx → IsN .u64 wx a1 m0 (V.map fun (v : Nat) => (v : Int))) (hP : ∀ wx, Below w.heap.size w wx → IsN .i64 wx a2 m2 P) (hQ : ∀ wx, Below w.heap.size w wx → IsN .u64 wx a3 m2 (Q.map fun (v : Nat) => (v : Int))) (hge : m0 ≤ n1) (hge2 : m2 ≤ n3) :
    Calls Try.prog 4 #[.slice a0 n0 c0, .slice a1 n1 c1, .slice a2 n2 c2, .slice a3 n3 c3] w fun e w' => e = .returned (.bool true) ∧ Below w.heap.size w w' := by
  have hWl : W.length = m0 := (hW w (Below.refl _ _)).1
  have hPl : P.length = m2 := (hP w (Below.refl _ _)).1
  have hVl : V.length = m0 := by have h := (hV w (Below.refl _ _)).1; simpa using h
  have hQl : Q.length = m2 := by have h := (hQ w (Below.refl _ _)).1; simpa using h
  have FW : Hid (∀ wx, Below w.heap.size w wx → IsN .i64 wx a0 m0 W) := hW
  have FV : Hid (∀ wx, Below w.heap.size w wx → IsN .u64 wx a1 m0 (V.map fun (v : Nat) => (v : Int))) := hV
  have FP : Hid (∀ wx, Below w.heap.size w wx → IsN .i64 wx a2 m2 P) := hP
  have FQ : Hid (∀ wx, Below w.heap.size w wx → IsN .u64 wx a3 m2 (Q.map fun (v : Nat) => (v : Int))) := hQ
  clear hW hV hP hQ
  have E0 := min_if n0
  have E2 := min_if n2
  rw [← hm0] at E0
  rw [← hm2] at E2
  have h01 : m0 ≤ n0 := by omega
  have h02 : m0 ≤ 32 := by omega
  have h21 : m2 ≤ n2 := by omega
  have h22 : m2 ≤ 32 := by omega
  have K0 : Hid _ := E0
  have K2 : Hid _ := E2
  have Z0 : Hid (a0 = none → c0 = 0) := z0
  have Z1 : Hid (a1 = none → c1 = 0) := z1
  have Z2 : Hid (a2 = none → c2 = 0) := z2
  have Z3 : Hid (a3 = none → c3 = 0) := z3
  clear E0 E2 hm0 hm2 z0 z1 z2 z3
  go_enter Try.func4, Try.ntmps4
  go_wp2_with (go_at_call 5; refine (alive_any w).mono ?_; rintro e w1 ⟨rfl, b1⟩)
  go_region
  rw [K0.out, K2.out]
  simp only [Int.toNat_natCast]
  go_wp2
  go_region
  have c1' : Below w.heap.size w w1.drew.drew := b1.drew.drew
  have hW1 := FW.out _ c1'
  have hV1 := FV.out _ c1'
  have hx0 : m0 ≤ maxLen := by unfold maxLen; omega
  have hx2 : m2 ≤ maxLen := by unfold maxLen; omega
  have X0 : Hid _ := hx0
  have X2 : Hid _ := hx2
  clear hx0 hx2 b1
  go_wp2_with fail
  refine (pack_u w1.drew.drew a0 a1 m0 c0 m0 c1 _ _ X0.out X0.out hW1 hV1).mono ?_
  rintro e w2 ⟨xa, xl, xc, rfl, ho, b2⟩
  have c2' := on c1' b2
  have hb2z := b2.size
  have HZ1 : Hid (w.heap.size ≤ w1.drew.drew.heap.size) := c1'.size
  clear c1' b2 hW1 hV1
  have hP2 := FP.out _ c2'
  have hQ2 := FQ.out _ c2'
  go_wp2_with fail
  refine (pack_u w2 a2 a3 m2 c2 m2 c3 _ _ X2.out X2.out hP2 hQ2).mono ?_
  rintro e w3 ⟨ya, yl, yc, rfl, hy, b3⟩
  have ho3 := owns_below ho b3
  have c3' := on c2' b3
  have hb3z : w1.drew.drew.heap.size ≤ w3.heap.size := Nat.le_trans hb2z b3.size
  clear c2' b3 ho hP2 hQ2
  obtain ⟨j1, j2⟩ := Oct.pack_join (W := W) (P := P) (V := V) (Q := Q) (by omega) (by omega) (by omega) (by omega)
  have J1 : Hid _ := j1
  have J2 : Hid _ := j2
  have L0 := Oct.packL_length W V
  have L2 := Oct.packL_length P Q
  have l0 := owns_len ho3
  have l2 := owns_len hy
  have hxl : xl ≤ 512 := by omega
  have hyl : yl ≤ 512 := by omega
  clear j1 j2 L0 L2 l0 l2 hWl hPl hVl hQl
  have hsz3 := c3'.size
  have own0 := own_empty w3 3 .i64
  have hWa := FW.out _ (c3'.alloc hsz3 (.cells #[] 3))
  go_wp2_with (at_builtin; refine append_ints info_int Try.underlying31 rfl (.tmp 60) (.tmp 61) rfl w3.heap.size _ 0 [] rfl own0 _ m0 c0 _ rfl hWa Z0.out (by unfold maxLen; omega) (by omega) (by simp) ?_)
  intro b4 d4 w4 own4 g4
  have d4' : Below w3.heap.size w3 w4 := ((Below.refl _ _).alloc (Nat.le_refl _) _).grown g4 (by simp) (fun k hk => by cases hk; exact Nat.le_refl _)
  have c4' := on c3' d4'
  have hsz4 := d4'.size
  have hPa := FP.out _ c4'
  try simp only [Nat.zero_add, List.nil_append] at own4
  try rw [Nat.zero_add]
  clear g4 own0 hWa
  go_wp2_with (at_builtin; refine append_ints info_int Try.underlying31 rfl (.tmp 62) (.tmp 63) rfl w3.heap.size _ m0 _ rfl own4 _ m2 c2 _ rfl hPa Z2.out (by unfold maxLen; omega) (by omega) hsz4 ?_)
  intro b5 d5 w5 own5z g5
  have own5 : w5.ownsRow w3.heap.size 3 1 (.slice b5 (m0 + m2) d5) (m0 + m2) ((W ++ P).map (Value.int .i64)) := by simpa using own5z
  clear own5z
  have d5' : Below w3.heap.size w3 w5 := d4'.grown g5 hsz4 (own_base own4)
  have c5' := on c3' d5'
  have hsz5 := d5'.size
  have lt5 := own_lt own5
  have hVa := FV.out _ (c5'.alloc c5'.size (.cells #[] 22))
  have own6 := own_empty w5 22 .u64
  clear g5 own4 hPa d4' c4'
  go_wp2_with (at_builtin; refine append_ints info_u64 Try.underlying32 rfl (.tmp 65) (.tmp 66) rfl w5.heap.size _ 0 [] rfl own6 _ m0 c1 _ rfl hVa Z1.out (by unfold maxLen; omega) (by omega) (by simp) ?_)
  intro b6 d6 w6 own7z g6
  have own7 : w6.ownsRow w5.heap.size 22 1 (.slice b6 m0 d6) m0 ((V.map fun (v : Nat) => (v : Int)).map (Value.int .u64)) := by simpa using own7z
  clear own7z
  have f6 : Below w5.heap.size w5 w6 := ((Below.refl _ _).alloc (Nat.le_refl _) _).grown g6 (by simp) (fun k hk => by cases hk; exact Nat.le_refl _)
  have own5a := owns_below own5 f6
  have d6' := on d5' f6
  have c6' := on c3' d6'
  have hsz6 := f6.size
  have hQa := FQ.out _ c6'
  try rw [Nat.zero_add]
  clear g6 own5 own6 hVa d5' c5'
  go_wp2_with (at_builtin; refine append_ints info_u64 Try.underlying32 rfl (.tmp 67) (.tmp 68) rfl w5.heap.size _ m0 _ rfl own7 _ m2 c3 _ rfl hQa Z3.out (by unfold maxLen; omega) (by omega) hsz6 ?_)
  intro b7 d7 w7 own8z g7
  have own8 : w7.ownsRow w5.heap.size 22 1 (.slice b7 (m0 + m2) d7) (m0 + m2) (((V ++ Q).map fun (v : Nat) => (v : Int)).map (Value.int .u64)) := by simpa using own8z
  clear own8z
  have f7 : Below w5.heap.size w5 w7 := f6.grown g7 hsz6 (own_base own7)
  have own5b := owns_grown2 own5a g7 (fun k hk e => by have h1 := own_base own7 k hk; have h2 := lt5 k e; omega)
  have d7' : Below w3.heap.size w3 w7 := d6'.grown g7 (d6'.size) (fun k hk => Nat.le_trans hsz5 (own_base own7 k hk))
  have c7' := on c3' d7'
  clear g7 own7 hQa d6' c6' own5a f6 f7 lt5
  have ho7 := owns_below ho3 d7'
  have hy7 := owns_below hy d7'
  obtain ⟨u1, u2, e5, -, -, -, hWP⟩ := owns_ints own5b
  cases e5
  obtain ⟨u3, u4, e8, -, -, -, hVQ⟩ := owns_ints own8
  cases e8
  have XX : Hid (m0 + m2 ≤ maxLen) := by unfold Hid maxLen; omega
  clear own5b own8 hy ho3
  go_wp2_with fail
  refine (pack_u w7 _ _ (m0 + m2) _ (m0 + m2) _ (W ++ P) (V ++ Q) XX.out XX.out hWP hVQ).mono ?_
  rintro e w8 ⟨qa, ql, qc, rfl, hq, b8⟩
  have ho8 := owns_below ho7 b8
  have hy8 := owns_below hy7 b8
  have c8' := on c7' b8
  have hql := owns_len hq
  have lt7 := own_lt ho7
  have LT7 : Hid _ := lt7
  clear lt7
  have hsz8 := c8'.size
  have hsz78 := b8.size
  have hsz37 := d7'.size
  clear ho7 hy7 b8 c7' hWP hVQ
  rw [J1.out]
  by_cases he : Oct.packE W V = 0
  · by_cases hf : Oct.packE P Q = 0
    · rw [if_pos he, hf, he]
      have hL := J2.out he hf
      rw [hL] at hq hql
      clear hL hql
      obtain ⟨hyB, _, hyn⟩ := owns_isB hy8
      have HYN : Hid _ := hyn
      clear hyn
      have hbase : w1.drew.drew.heap.size ≤ w8.heap.size := by omega
      go_wp2_with (first
        | (go_at_call 7; refine (num_any _ _).mono ?_; rintro e w9 ⟨rfl, rfl⟩)
        | (at_builtin; refine append_two_on (by rfl) (.tmp 94) (.tmp 95) rfl w1.drew.drew.heap.size _ xl _ rfl ho8 ya yl yc _ rfl hyB HYN.out (by omega) hbase ?_))
      intro b9 d9 w9 own9 g9
      have hq9 := owns_grown2 hq g9 (fun k hk e => by have h1 := LT7.out k hk; have h2 := own_base hq k e; omega)
      have c9 : Below w.heap.size w w9 := c8'.grown g9 hsz8 (fun k hk => Nat.le_trans HZ1.out (own_base ho8 k hk))
      clear g9 hq ho8 hy8 hyB c8'
      go_wp2_with fail
      refine (sameBytes_any w9 _ _ _ _ _ _ _ _ (owns_isB hq9).1 (owns_isB own9).1).mono ?_
      rintro e w10 ⟨rfl, rfl⟩
      rw [beq_self_eq_true]
      go_wp2
      go_ret
      exact ⟨rfl, c9⟩
    · have hf1 : (Oct.packE P Q != 0) = true := bne_iff_ne.2 hf
      rw [if_pos he, he]
      have hz := Oct.packL_other (W := W ++ P) (V := V ++ Q) (by rw [J1.out, if_pos he]; exact hf)
      rw [hz] at hql
      obtain rfl : ql = 0 := by simpa using hql
      clear hql hz hq ho8 hy8
      go_wp2_with (go_at_call 7; refine (num_any _ _).mono ?_; rintro e w9 ⟨rfl, rfl⟩)
      go_ret
      exact ⟨rfl, c8'⟩
  · have he1 : (Oct.packE W V != 0) = true := bne_iff_ne.2 he
    rw [if_neg he]
    have hz := Oct.packL_other (W := W ++ P) (V := V ++ Q) (by rw [J1.out, if_neg he]; exact he)
    rw [hz] at hql
    obtain rfl : ql = 0 := by simpa using hql
    clear hql hz hq ho8 hy8
    go_wp2_with (go_at_call 7; refine (num_any _ _).mono ?_; rintro e w9 ⟨rfl, rfl⟩)
    go_ret
    exact ⟨rfl, c8'⟩


theorem joins_walk (a0 : Option Addr) (len0 cap0 : Nat) (z0 : List Int) (a1 : Option Addr) (len1 cap1 : Nat) (z1 : List Int) (a2 : Option Addr) (len2 cap2 : Nat) (z2 : List Int) (a3 : Option Addr) (len3 cap3 : Nat) (z3 : List Int) (w : World) (w0 : IsRow .i64 8 w a0 len0 cap0 z0) (w1 : IsRow .u64 8 w a1 len1 cap1 z1) (w2 : IsRow .i64 8 w a2 len2 cap2 z2) (w3 : IsRow .u64 8 w a3 len3 cap3 z3) :
    Calls Try.prog 4 #[.slice a0 len0 cap0, .slice a1 len1 cap1, .slice a2 len2 cap2, .slice a3 len3 cap3] w fun e w' => e = .returned (.bool true) ∧ Below w.heap.size w w' := by
  obtain ⟨W, hW, h1, h2, _⟩ := w0.ints
  obtain ⟨V0, hV, h3, h4, h5⟩ := w1.ints
  obtain ⟨V, rfl, h6⟩ := nats_of V0 h5
  obtain ⟨P, hP, k1, k2, _⟩ := w2.ints
  obtain ⟨Q0, hQ, k3, k4, k5⟩ := w3.ints
  obtain ⟨Q, rfl, k6⟩ := nats_of Q0 k5
  have b0 := w0.1
  have b1 := w1.1
  have b2 := w2.1
  have b3 := w3.1
  by_cases x1 : len1 < min len0 32
  · exact joins_short1 a0 a1 a2 a3 len0 cap0 len1 cap1 len2 cap2 len3 cap3 _ _ W P V Q w rfl rfl (by omega) (by omega) (by omega) (by omega) h1 h3 k1 k3 h2 h4 k2 k4 hW hV hP hQ x1
  · by_cases x2 : len3 < min len2 32
    · exact joins_short2 a0 a1 a2 a3 len0 cap0 len1 cap1 len2 cap2 len3 cap3 _ _ W P V Q w rfl rfl (by omega) (by omega) (by omega) (by omega) h1 h3 k1 k3 h2 h4 k2 k4 hW hV hP hQ (by omega) x2
    · refine joins_full a0 a1 a2 a3 len0 cap0 len1 cap1 len2 cap2 len3 cap3 _ _ (W.take (min len0 32)) (P.take (min len2 32)) (V.take (min len0 32)) (Q.take (min len2 32)) w rfl rfl (by omega) (by omega) (by omega) (by omega) h1 h3 k1 k3 h2 h4 k2 k4 ?_ ?_ ?_ ?_ (by omega) (by omega)
      · exact fun wx h => (hW.below h).head _ (by omega)
      · intro wx h
        rw [List.map_take]
        exact (hV.below h).head _ (by omega)
      · exact fun wx h => (hP.below h).head _ (by omega)
      · intro wx h
        rw [List.map_take]
        exact (hQ.below h).head _ (by omega)

set_option maxRecDepth 100000 in
theorem joins_lifted (os : Os) (started : os.Started) (H : Type) (enc : TypeId × Value → H) :
    ReturnsInHanded {} Try.checked os 4 .any (Rows.octetsJoinsSpec.pre6 enc Try.prog Try.f4 Rows.octetsJoinsRow.domain false) (Rows.octetsJoinsSpec.post enc Try.prog Try.f4 false true false false) := by
  refine returnsInHanded_of_change_sized (C := Try.checked) own started (by kernel_rfl) Try.func4
    (ChangeSpec.witness6 (enc := enc) (C := Try.checked) false ⟨#[], #[.slice none 0 0, .slice none 0 0, .slice none 0 0, .slice none 0 0], []⟩ 8 (by kernel_rfl) (by kernel_rfl) (by kernel_rfl) (by kernel_rfl)) ?_
  intro W base args ds gs before hval0 hW _ hsz0 _
  have hsz : (DataW.weightsEach Try.prog (Try.f4.params.toList ++ Rows.octetsJoinsSpec.plain.varTypes Try.prog) (ds ++ gs)).all (· ≤ reachBytes) = true := hsz0
  clear hsz0
  have hval : ∀ (j : Nat) t v, Try.f4.params[j]? = some t → args[j]? = some v → Value.okWide Try.prog W .any base t v := hval0
  have hW' := hW
  obtain ⟨p, q, hA0, hV, rfl, hfz, hnd⟩ := hW
  have hA : DataW.TrodAll enc Try.prog W 0 (fun _ => true) true Try.f4.params.toList args.toList ds p := hA0
  rw [Try.params4] at hA hval hsz
  obtain ⟨v0, vs0, d0, ds0, p0, q0, hargs, rfl, rfl, h0, r0⟩ := trodAll_cons hA
  obtain ⟨v1, vs1, d1, ds1, p1, q1, rfl, rfl, rfl, h1, r1⟩ := trodAll_cons r0
  obtain ⟨v2, vs2, d2, ds2, p2, q2, rfl, rfl, rfl, h2, r2⟩ := trodAll_cons r1
  obtain ⟨v3, vs3, d3, ds3, p3, q3, rfl, rfl, rfl, h3, r3⟩ := trodAll_cons r2
  obtain ⟨rfl, rfl, rfl⟩ := trodAll_nil r3
  obtain rfl : args = #[v0, v1, v2, v3] := by cases args; simp_all
  obtain ⟨rfl, rfl⟩ := trodVars_none hV
  obtain ⟨a0, len0, cap0, rfl⟩ := okWide_slice Try.underlying31 (hval 0 31 v0 rfl rfl)
  have k0 := h0
  have lt0 : ∀ x ∈ p0, x.block < W.heap.size := by obtain ⟨m, hm⟩ := k0; exact DataW.trod_lt m _ _ _ hm
  obtain ⟨z0, w0⟩ : ∃ zs, IsRow .i64 8 W a0 len0 cap0 zs := by
    obtain ⟨fuel, hf⟩ := h0
    rcases open_ints Try.underlying31 Try.underlying3 (by kernel_rfl) hf with ⟨hcs, _⟩ | ⟨x, l, c, zs, hcs, _, hl, hm, hz, hx, hcell, hwz⟩
    · simp [Value.cells] at hcs
      obtain ⟨rfl, rfl, rfl⟩ := hcs
      exact ⟨[], by simp, .inl ⟨rfl, rfl, rfl, rfl⟩⟩
    · simp [Value.cells] at hcs
      obtain ⟨rfl, rfl, rfl⟩ := hcs
      simp only [Prod.mk.injEq] at hx
      obtain ⟨rfl, rfl⟩ := hx
      simp only [if_true] at hz
      have hs := sized_slice hsz (j := 0) (t := 31) (e := 3) rfl rfl Try.underlying31
      rw [show Try.prog.bytesOf 3 = 8 from by kernel_rfl] at hs
      simp only [lits, List.length_map, List.length_take, List.length_drop, reachBytes] at hs
      exact ⟨zs, by omega, .inr ⟨_, rfl, hl, hm, hz, hcell, hwz⟩⟩
  obtain ⟨a1, len1, cap1, rfl⟩ := okWide_slice Try.underlying32 (hval 1 32 v1 rfl rfl)
  have k1 := h1
  have lt1 : ∀ x ∈ p1, x.block < W.heap.size := by obtain ⟨m, hm⟩ := k1; exact DataW.trod_lt m _ _ _ hm
  obtain ⟨z1, w1⟩ : ∃ zs, IsRow .u64 8 W a1 len1 cap1 zs := by
    obtain ⟨fuel, hf⟩ := h1
    rcases open_ints Try.underlying32 Try.underlying22 (by kernel_rfl) hf with ⟨hcs, _⟩ | ⟨x, l, c, zs, hcs, _, hl, hm, hz, hx, hcell, hwz⟩
    · simp [Value.cells] at hcs
      obtain ⟨rfl, rfl, rfl⟩ := hcs
      exact ⟨[], by simp, .inl ⟨rfl, rfl, rfl, rfl⟩⟩
    · simp [Value.cells] at hcs
      obtain ⟨rfl, rfl, rfl⟩ := hcs
      simp only [Prod.mk.injEq] at hx
      obtain ⟨rfl, rfl⟩ := hx
      simp only [if_true] at hz
      have hs := sized_slice hsz (j := 1) (t := 32) (e := 22) rfl rfl Try.underlying32
      rw [show Try.prog.bytesOf 22 = 8 from by kernel_rfl] at hs
      simp only [lits, List.length_map, List.length_take, List.length_drop, reachBytes] at hs
      exact ⟨zs, by omega, .inr ⟨_, rfl, hl, hm, hz, hcell, hwz⟩⟩
  obtain ⟨a2, len2, cap2, rfl⟩ := okWide_slice Try.underlying31 (hval 2 31 v2 rfl rfl)
  have k2 := h2
  have lt2 : ∀ x ∈ p2, x.block < W.heap.size := by obtain ⟨m, hm⟩ := k2; exact DataW.trod_lt m _ _ _ hm
  obtain ⟨z2, w2⟩ : ∃ zs, IsRow .i64 8 W a2 len2 cap2 zs := by
    obtain ⟨fuel, hf⟩ := h2
    rcases open_ints Try.underlying31 Try.underlying3 (by kernel_rfl) hf with ⟨hcs, _⟩ | ⟨x, l, c, zs, hcs, _, hl, hm, hz, hx, hcell, hwz⟩
    · simp [Value.cells] at hcs
      obtain ⟨rfl, rfl, rfl⟩ := hcs
      exact ⟨[], by simp, .inl ⟨rfl, rfl, rfl, rfl⟩⟩
    · simp [Value.cells] at hcs
      obtain ⟨rfl, rfl, rfl⟩ := hcs
      simp only [Prod.mk.injEq] at hx
      obtain ⟨rfl, rfl⟩ := hx
      simp only [if_true] at hz
      have hs := sized_slice hsz (j := 2) (t := 31) (e := 3) rfl rfl Try.underlying31
      rw [show Try.prog.bytesOf 3 = 8 from by kernel_rfl] at hs
      simp only [lits, List.length_map, List.length_take, List.length_drop, reachBytes] at hs
      exact ⟨zs, by omega, .inr ⟨_, rfl, hl, hm, hz, hcell, hwz⟩⟩
  obtain ⟨a3, len3, cap3, rfl⟩ := okWide_slice Try.underlying32 (hval 3 32 v3 rfl rfl)
  have k3 := h3
  have lt3 : ∀ x ∈ p3, x.block < W.heap.size := by obtain ⟨m, hm⟩ := k3; exact DataW.trod_lt m _ _ _ hm
  obtain ⟨z3, w3⟩ : ∃ zs, IsRow .u64 8 W a3 len3 cap3 zs := by
    obtain ⟨fuel, hf⟩ := h3
    rcases open_ints Try.underlying32 Try.underlying22 (by kernel_rfl) hf with ⟨hcs, _⟩ | ⟨x, l, c, zs, hcs, _, hl, hm, hz, hx, hcell, hwz⟩
    · simp [Value.cells] at hcs
      obtain ⟨rfl, rfl, rfl⟩ := hcs
      exact ⟨[], by simp, .inl ⟨rfl, rfl, rfl, rfl⟩⟩
    · simp [Value.cells] at hcs
      obtain ⟨rfl, rfl, rfl⟩ := hcs
      simp only [Prod.mk.injEq] at hx
      obtain ⟨rfl, rfl⟩ := hx
      simp only [if_true] at hz
      have hs := sized_slice hsz (j := 3) (t := 32) (e := 22) rfl rfl Try.underlying32
      rw [show Try.prog.bytesOf 22 = 8 from by kernel_rfl] at hs
      simp only [lits, List.length_map, List.length_take, List.length_drop, reachBytes] at hs
      exact ⟨zs, by omega, .inr ⟨_, rfl, hl, hm, hz, hcell, hwz⟩⟩
  clear hA0 hval0
  refine (joins_walk a0 len0 cap0 z0 a1 len1 cap1 z1 a2 len2 cap2 z2 a3 len3 cap3 z3 W w0 w1 w2 w3).mono fun e W' ⟨he, bel⟩ => ?_
  subst he
  exact ⟨_, rfl, _, _, _, [], _, [], hW', trodAll_mk1 (shut_bool Try.underlying4 _), (trodAll_cons_mk (Below.trod laidOut (by kernel_rfl) (of_decide_eq_true (by kernel_rfl)) k0 bel lt0) (trodAll_cons_mk (Below.trod laidOut (by kernel_rfl) (of_decide_eq_true (by kernel_rfl)) k1 bel lt1) (trodAll_cons_mk (Below.trod laidOut (by kernel_rfl) (of_decide_eq_true (by kernel_rfl)) k2 bel lt2) (trodAll_cons_mk (Below.trod laidOut (by kernel_rfl) (of_decide_eq_true (by kernel_rfl)) k3 bel lt3) trodAll_mk0)))), rfl, bel.frame _, fun h => by cases h⟩

theorem octetsJoins_holds : Rows.OctetsJoinsSaid :=
  OpenClaim.holds_of_wide 4 Try.f4 rfl rfl rfl rfl rfl rfl rfl ⟨rfl, rfl, rfl, rfl, rfl⟩ rfl rfl rfl rfl rfl (by kernel_rfl) Try.func4 (by kernel_rfl)
    (of_decide_eq_true (by kernel_rfl)) (by unfold Func.isWrapper; first | (rw [if_pos (by decide +kernel)]; kernel_rfl) | (rw [if_neg (by decide +kernel)]; exact ⟨rfl, rfl⟩))
    (fun os started H enc _ => joins_lifted os started H enc)

end Go.Proofs.Ytomfplmkbdalhab
