/-
  Facts that the proof rests on, part 21. Conditions: those that each of them names.
-/
import Derived.Test.YtkbmadoaomoojaaGreatT00
import Derived.ChangeOld
import Derived.OpenShut
import Derived.ProofKit
import Derived.ShutString
import Derived.SizedLaws
import Derived.Test.YtkbmadoaomoojaaGreatRows
import Derived.Test.YtkbmadoaomoojaaGreatT02
import Derived.Test.YtkbmadoaomoojaaGreatT03
import Derived.Test.YtkbmadoaomoojaaGreatT05
import Derived.Test.YtkbmadoaomoojaaGreatT07
import Derived.Test.YtkbmadoaomoojaaGreatT08
import Derived.Test.YtkbmadoaomoojaaGreatT13
import Derived.Test.YtkbmadoaomoojaaGreatT17
import Derived.Test.YtkbmadoaomoojaaGreatT18
import Derived.Test.YtkbmadoaomoojaaGreatT19
namespace Go.Proofs.YtkbmadoaomoojaaGreat
set_option maxHeartbeats 16000000
set_option maxRecDepth 20000
open Go.ChangeShapes Go.WideShapes Go.ChangeAt Go.RowKit
theorem own : ownKnob Tryz.prog.godebug = none := by kernel_rfl
theorem laidOut : laidOutB Tryz.prog = true := by kernel_rfl
theorem opens_octets : Opens Tryz.prog 53 rBytes := qUx Tryz.underlying53 (by kernel_rfl) (by kernel_rfl) (opens_byte Tryz.underlying5)
theorem qXx : Opens Tryz.prog 22 rSectors := qUx Tryz.underlying22 (by kernel_rfl) (by kernel_rfl) opens_octets
theorem opens_pages : Opens Tryz.prog 24 rSectors :=
 qLQ Tryz.underlying24 (by kernel_rfl) (qUQ rfl (by kernel_rfl) qXx)
theorem opens_item : Opens Tryz.prog 45 rItm :=
 qLQ Tryz.underlying45 (by kernel_rfl) (opens_field rfl (by kernel_rfl) (opens_u64 Tryz.underlying39) (qUQ rfl (by kernel_rfl) (opens_u64 Tryz.underlying39)))
theorem rPages_rd {w : World} {P : Nat → Prop} {cs : List Value} {s : List (List UInt8)} (h : rSectors.rd w P cs s) : ∃ a n c, cs = [.slice a n c] ∧ s.length = n ∧ n ≤ 5864062014634 := by
 obtain ⟨a, n, c, e, h1, -, -, h4, -⟩ := h
 have h5 : n * 24 ≤ 140737488351232 := h4
 exact ⟨a, n, c, e, h1, by omega⟩
end Go.Proofs.YtkbmadoaomoojaaGreat
namespace Go.Proofs.YtkbmadoaomoojaaGreat
set_option maxHeartbeats 16000000
set_option maxRecDepth 20000
open Go.RowKit
set_option linter.unusedVariables false
theorem qCz (w : World) (P : Nat → Prop) : rSectors.rd w P [.slice none 0 0] [] := ⟨none, 0, 0, rfl, rfl, Nat.zero_le _, fun _ => rfl, by decide, fun x hx j hj => by cases hj⟩
theorem of8_u (w : World) (P : Nat → Prop) (s : Pgs) (a : Option Addr) (n c : Nat) (hR : rSectors.rd w P [.slice a n c] s) :
 Calls Tryz.prog 6 #[.agg #[.slice a n c]] w fun e w' => ∃ b d, e = .returned (.agg #[.slice b n d]) ∧ rSectors.rd w' (fun k => w.heap.size ≤ k) [.slice b n d] s ∧ Below w.heap.size w w' := by
 obtain ⟨w1, hw1, V1, b1, z1⟩ := q0q w 24 [.slice a n c]
 obtain ⟨w2, hw2, V2, b2, z2⟩ := q0q w1 26 [.slice none 0 0]
 have B2 : Hid (Below w.heap.size w w2) := on b1 b2
 have HV2 : Hid _ := V2
 have HZ : Hid (w.heap.size ≤ w1.heap.size) := b1.size
 have HZ1 : Hid (w1.heap.size = w.heap.size + 1) := z1
 have HC : Hid _ := qVJ w2 P a n c s (Rep.below hR B2.out)
 have c0 := (V1.below b2).cell (j := 0) rfl
 clear V1 V2 b1 b2 z1 z2 hR
 go_enter Tryz.func6, Tryz.ntmps6
 go_wp2_with fail
 go_at_call 20
 refine Calls.mono HC.out ?_
 rintro e w3 ⟨b, d, rfl, hr, b3⟩
 have HV3 : Hid _ := HV2.out.below b3
 have HR3 : Hid _ := hr
 have B3 : Hid _ := on B2.out b3
 have HS2 : Hid (w1.heap.size < w2.heap.size) := HV2.out.lt
 have e0 := HV3.out.cell (j := 0) rfl
 have e1 := HV3.out.frozen 0
 clear hr b3
 go_wp2
 have hk : Kept (· ≠ w1.heap.size) w3 (w3.setCell ⟨w1.heap.size, 0, none⟩ (.slice b n d)) := (Kept.refl _ w3).setCell (p := ⟨w1.heap.size, 0, none⟩) (fun h => h rfl) _
 refine bodyPost_ret (q8Z (xs := [.slice b n d]) rfl (by first | rfl | (simp only [HZ1.out]; rfl)) (HV3.out.set 0 _) Tryz.underlying26 rfl (by kernel_rfl)) rfl ⟨b, d, rfl, ?_, Kept.belowOf B3.out hk (by have := HZ.out; omega)⟩
 exact rSectors.weaken (Rep.kept HR3.out hk (fun q hq _ => by have h1 : w2.heap.size ≤ q := hq; have h2 := HS2.out; show q ≠ w1.heap.size; omega)) (fun q hq _ => by have h1 : w2.heap.size ≤ q := hq; have h2 := HS2.out; have h3 := HZ.out; show w.heap.size ≤ q; omega)
namespace Tr
def putE (x : Itm) (s : Pgs) (root : Int) : Int := match putR x s root with | .error y => y | .ok _ => 0
def putS (x : Itm) (s : Pgs) (root : Int) : Pgs := match putR x s root with | .error _ => [] | .ok r => r.1
def putQ (x : Itm) (s : Pgs) (root : Int) : Int := match putR x s root with | .error _ => 0 | .ok r => r.2
theorem put_cases (x : Itm) (s : Pgs) (root : Int) :
 (readE s root ≠ 0 ∧ putE x s root = readE s root ∧ putS x s root = [] ∧ putQ x s root = 0) ∨ (readE s root = 0 ∧ putE x s root = 51 ∧ 2048 < s.length + 26 ∧ putS x s root = [] ∧ putQ x s root = 0) ∨ (readE s root = 0 ∧ putE x s root = 0 ∧ qTx (putT x) s root (putS x s root) (putQ x s root)) := by
 unfold putE putS putQ
 cases h : putR x s root with
 | error y =>
   rcases putR_error h with ⟨h1, h2⟩ | ⟨h1, h2, h3⟩
   · exact .inl ⟨h1, h2, rfl, rfl⟩
   · exact .inr (.inl ⟨h1, h2, h3, rfl, rfl⟩)
 | ok r =>
   obtain ⟨s', q⟩ := r
   obtain ⟨h1, h2⟩ := qXz h
   exact .inr (.inr ⟨h1, rfl, h2⟩)
theorem root_in {s : Pgs} {root : Int} (h : readE s root = 0) : 0 ≤ root ∧ root ≤ 2048 := by
 obtain ⟨hl, ⟨e, -⟩ | ⟨-, d, W, -⟩⟩ := qDQ h
 · omega
 · have := qJj W.fit
   omega
theorem putQ_in (x : Itm) (s : Pgs) (root : Int) : 0 ≤ putQ x s root ∧ putQ x s root ≤ 2048 := by
 rcases put_cases x s root with ⟨-, -, -, h⟩ | ⟨-, -, -, -, h⟩ | ⟨-, -, h⟩
 · rw [h]; omega
 · rw [h]; omega
 · exact root_in h.ok_
end Tr
theorem qLj (w : World) (P : Nat → Prop) (s : Pgs) (root : Int) (x : Itm) (pa : Option Addr) (n pc : Nat) (hR : rSectors.rd w P [.slice pa n pc] s) (h0 : -9223372036854775808 ≤ root) (h1 : root ≤ 9223372036854775807) :
 Calls Tryz.prog 15 #[.agg #[.slice pa n pc], .int .i64 root, .agg #[.int .u64 (x.1.toNat : Int), .int .u64 (x.2.toNat : Int)]] w fun e w' => ∃ a m c, e = .returned (.tuple #[.agg #[.slice a m c], .int .i64 (Tr.putQ x s root), .int .i64 (Tr.putE x s root)]) ∧ rSectors.rd w' (fun b => w.heap.size ≤ b) [.slice a m c] (Tr.putS x s root) ∧ Below w.heap.size w w' := by
 obtain rfl : n = s.length := (q0x hR).1.symm
 refine (Put_u w P s root x pa pc hR h0 h1).mono ?_
 rintro e w' ⟨b, hno, hyes⟩
 unfold Tr.putQ Tr.putE Tr.putS
 cases h : Tr.putR x s root with
 | error y =>
   rw [h] at hno
   exact ⟨none, 0, 0, hno y rfl, qCz _ _, b⟩
 | ok r =>
   rw [h] at hyes
   obtain ⟨a, c, h1, h2, -⟩ := hyes r.1 r.2 rfl
   exact ⟨a, _, c, h1, h2, b⟩
theorem delAsk_u (w : World) (x : Itm) (bk : Nat) (key : UInt64) (hV : Row w bk 39 [.int .u64 (key.toNat : Int)]) :
 Calls Tryz.prog 34 #[.agg #[.int .u64 (x.1.toNat : Int), .int .u64 (x.2.toNat : Int)], .pointer (some ⟨bk, 0, none⟩)] w fun e w' => e = .returned (.bool (decide (x.1 = key))) ∧ Below w.heap.size w w' := by
 obtain ⟨w0, hw0, V0, b0, z0⟩ := q0q w 45 [.int .u64 (x.1.toNat : Int), .int .u64 (x.2.toNat : Int)]
 obtain ⟨r0, r1⟩ := V0.two
 have k0 := (hV.below b0).cell (j := 0) rfl
 have B0 : Hid _ := b0
 by_cases h : x.1 = key
 · have e : decide (x.1 = key) = true := decide_eq_true h
   rw [e]
   have hz : ((x.1.toNat : Int) == (key.toNat : Int)) = true := by rw [h]; simp
   clear V0 b0 z0 hV e h
   go_enter Tryz.func34, Tryz.ntmps34
   go_wp2
   go_ret
   exact ⟨by first | rfl | (simp only [hz]; rfl) | simp [hz], B0.out⟩
 · have e : decide (x.1 = key) = false := decide_eq_false h
   rw [e]
   have hne : ¬ (x.1.toNat : Int) = (key.toNat : Int) := fun e => h (UInt64.toNat_inj.1 (by omega))
   have hz : ((x.1.toNat : Int) == (key.toNat : Int)) = false := beq_eq_false_iff_ne.2 hne
   clear V0 b0 z0 hV e h
   go_enter Tryz.func34, Tryz.ntmps34
   go_wp2
   go_ret
   exact ⟨by first | rfl | (simp only [hz]; rfl) | simp [hz], B0.out⟩
namespace Tr
def idx (l : List Itm) (key : UInt64) : Int := match l.findIdx? (fun y => decide (y.1 = key)) with
 | some i => (i : Int)
 | none => -1
theorem idx_at {l : List Itm} {key : UInt64} {i : Nat} (hi : i < l.length) (h1 : l[i].1 = key) (h2 : ∀ j (hj : j < l.length), j < i → l[j].1 ≠ key) : idx l key = (i : Int) := by
 unfold idx
 rw [List.findIdx?_eq_some_iff_getElem.2 ⟨hi, by simp [h1], fun j hj => by simpa using h2 j (by omega) hj⟩]
theorem idx_no {l : List Itm} {key : UInt64} (h : ∀ j (hj : j < l.length), l[j].1 ≠ key) : idx l key = -1 := by
 unfold idx
 rw [List.findIdx?_eq_none_iff.2 (fun x hx => by obtain ⟨j, hj, rfl⟩ := List.getElem_of_mem hx; simpa using h j hj)]
end Tr
theorem delIdx_u (w : World) (P : Nat → Prop) (a : Option Addr) (n c : Nat) (l : List Itm) (hL : rItms.rd w P [.slice a n c] l) (hn : n ≤ 1000) (bk : Nat) (key : UInt64) (hV : Row w bk 39 [.int .u64 (key.toNat : Int)]) :
 Calls Tryz.prog 54 #[.slice a n c, .func (.func 34) #[] #[.pointer (some ⟨bk, 0, none⟩)]] w fun e w' => e = .returned (.int .i64 (Tr.idx l key)) ∧ Below w.heap.size w w' := by
 have HL : Hid _ := hL
 have HV : Hid _ := hV
 have HN : Hid (l.length = n) := (q0x hL).1
 clear hL hV
 go_enter Tryz.func54, Tryz.ntmps54
 go_wp2
 go_loopw [8] (fun i wr => ∃ k : Nat, k ≤ n ∧ i = .int .i64 k ∧ Hid (∀ j (h : j < l.length), j < k → l[j].1 ≠ key) ∧ Hid (Below w.heap.size w wr)) (fun i _ => n - (intOf i).toNat)
 case atStart => exact ⟨0, Nat.zero_le _, rfl, (fun j _ h => by omega), Below.refl _ _⟩
 case round =>
  obtain ⟨k, hk, rfl, HK, B⟩ := hrel
  by_cases hlt : k < n
  · have hkl : k < l.length := by rw [HN.out]; exact hlt
    obtain ⟨g, off, rfl, -, -, hat⟩ := q0Z (Rep.below HL.out B.out) (by omega)
    obtain ⟨c0, c1⟩ := hat k hkl
    have hkn : (k : Int) < (n : Int) := by omega
    have hk0 : (0 : Int) ≤ (k : Int) := Int.natCast_nonneg _
    have hc := delAsk_u wr l[k] bk key (HV.out.below B.out)
    have HX : Hid (∀ X, X = l[k] → (X.1 = key → Tr.idx l key = (k : Int)) ∧ (X.1 ≠ key → ∀ j (h : j < l.length), j < k + 1 → l[j].1 ≠ key)) := by
     rintro X rfl
     refine ⟨fun h => Tr.idx_at hkl h HK.out, fun h j hj hjk => ?_⟩
     rcases Nat.lt_or_ge j k with q | q
     · exact HK.out j hj q
     · obtain rfl : j = k := by omega
       exact h
    clear hat
    generalize l[k] = X at *
    have HX2 := HX.out X rfl
    clear HX
    by_cases q : X.1 = key
    · have HI : Hid _ := HX2.1 q
      rw [decide_eq_true q] at hc
      clear HX2 q
      go_wp2_with (go_at_call 34; refine hc.mono ?_; rintro e w5 ⟨rfl, b5⟩)
      go_ret
      exact ⟨by rw [HI.out]; rfl, on B.out b5⟩
    · have HK2 : Hid _ := HX2.2 q
      rw [decide_eq_false q] at hc
      clear HX2 q
      go_wp2_with (go_at_call 34; refine hc.mono ?_; rintro e w5 ⟨rfl, b5⟩)
      go_roundw
      case rel => exact ⟨k + 1, by omega, by go_num, HK2, on B.out b5⟩
      case measure => simp [intOf]; omega
  · obtain rfl : k = n := by omega
    have HI : Hid (Tr.idx l key = -1) := Tr.idx_no (fun j hj => HK.out j hj (by have := HN.out; omega))
    go_wp2
    go_ret
    exact ⟨by rw [HI.out]; rfl, B.out⟩
namespace Tr
theorem delT_step {key : UInt64} {l : List Itm} {j : Nat} (hj : j < l.length) : delT key (l.take (j + 1)) = if l[j].1 = key then delT key (l.take j) else delT key (l.take j) ++ [l[j]] := by
 unfold delT
 rw [List.take_succ_eq_append_getElem hj, List.filter_append]
 by_cases h : l[j].1 = key
 · rw [if_pos h, List.filter_cons_of_neg (by simp [h]), List.filter_nil, List.append_nil]
 · rw [if_neg h, List.filter_cons_of_pos (by simp [h]), List.filter_nil]
theorem idx_some {l : List Itm} {key : UInt64} : idx l key = -1 ∧ (∀ x ∈ l, x.1 ≠ key) ∨ ∃ i : Nat, idx l key = (i : Int) ∧ ∃ h : i < l.length, l[i].1 = key ∧ ∀ x ∈ l.take i, x.1 ≠ key := by
 unfold idx
 cases h : l.findIdx? (fun y => decide (y.1 = key)) with
 | none =>
   refine .inl ⟨rfl, fun x hx => ?_⟩
   have := List.findIdx?_eq_none_iff.1 h x hx
   simpa using this
 | some i =>
   obtain ⟨hi, h1, h2⟩ := List.findIdx?_eq_some_iff_getElem.1 h
   refine .inr ⟨i, rfl, hi, by simpa using h1, fun x hx => ?_⟩
   obtain ⟨j, hj, rfl⟩ := List.getElem_of_mem hx
   rw [zw4] at hj
   rw [List.getElem_take]
   have := h2 j (by omega)
   simpa using this
theorem delT_none {l : List Itm} {key : UInt64} (h : ∀ x ∈ l, x.1 ≠ key) : delT key l = l := qBJ fun x hx => decide_eq_true (h x hx)
end Tr
theorem delFunc_u (w : World) (base : Nat) (a : Option Addr) (n c : Nat) (l : List Itm) (hO : OwnI 45 w base (.slice a n c) l) (hn : n ≤ 1000) (bk : Nat) (key : UInt64) (hV : Row w bk 39 [.int .u64 (key.toNat : Int)]) (hb : base ≤ w.heap.size) :
 Calls Tryz.prog 33 #[.slice a n c, .func (.func 34) #[] #[.pointer (some ⟨bk, 0, none⟩)]] w fun e w' => ∃ ra rn rc, e = .returned (.slice ra rn rc) ∧ OwnI 45 w' base (.slice ra rn rc) (Tr.delT key l) ∧ Grew w w' (.slice a n c) (.slice ra rn rc) := by
 have hl : l.length = n := by obtain ⟨p, q, e, -⟩ := hO.slice; simp only [Value.slice.injEq] at e; omega
 have HI : Hid _ := delIdx_u w (fun b => base ≤ b) a n c l (hO.rd (by omega)) hn bk key hV
 rcases Tr.idx_some (l := l) (key := key) with ⟨e1, e2⟩ | ⟨i0, e1, hi0, e2, e3⟩
 · rw [e1] at HI
   have HD : Hid (Tr.delT key l = l) := Tr.delT_none e2
   have HO : Hid _ := hO
   clear e1 e2 hV hl
   go_enter Tryz.func33, Tryz.ntmps33
   go_wp2_with fail
   go_at_call 54
   refine Calls.mono HI.out ?_
   rintro e w2 ⟨rfl, b2⟩
   have HB : Hid _ := b2
   clear b2
   go_wp2
   go_ret
   exact ⟨_, _, _, rfl, by rw [HD.out]; exact HO.out.below HB.out, ⟨⟨HB.out.os, HB.out.tape, HB.out.output, HB.out.size, fun q hq _ => HB.out.block q hq⟩, fun b e => .inl e⟩⟩
 · rw [e1] at HI
   obtain ⟨g, rfl⟩ : ∃ g, a = some ⟨g, 0, none⟩ := by
    rcases hO.row.2 with ⟨e, h0⟩ | ⟨g, c2, cur, e, -⟩
    · simp only [Value.slice.injEq] at e; omega
    · simp only [Value.slice.injEq] at e
      exact ⟨g, e.1⟩
   obtain ⟨cur0, R0⟩ := hO.repI
   have HR0 : Hid _ := R0
   have HV : Hid _ := hV
   have HBk : Hid (bk ≠ g) := fun e => by subst e; have h1 := hV.eq; rw [R0.row.eq] at h1; cases h1
   have HL : Hid (l.length = n) := hl
   have HD0 : Hid (Tr.delT key (l.take (i0 + 1)) = l.take i0) := by unfold Hid; rw [Tr.delT_step hi0, if_pos e2]; exact Tr.delT_none e3
   have hin : i0 < n := by omega
   have hne : ((i0 : Int) == -1) = false := beq_eq_false_iff_ne.2 (by omega)
   have hw0 : IntKind.i64.wrap ((i0 : Int) + 1) = ((i0 + 1 : Nat) : Int) := by rw [IntKind.wrap_i64]; omega
   have HGs : Hid (g < w.heap.size ∧ base ≤ g) := ⟨R0.row.lt, R0.base_⟩
   clear hO hV hl e1 e2 e3 hi0 R0
   go_enter Tryz.func33, Tryz.ntmps33
   go_wp2_with fail
   go_at_call 54
   refine Calls.mono HI.out ?_
   rintro e w2 ⟨rfl, b2⟩
   have HB2 : Hid _ := b2
   clear b2
   go_wp2
   go_loopw [5, 6] (fun si sj wr => ∃ (i j : Nat) (l' : List Itm) (cur : List Value), si = .int .i64 i ∧ sj = .int .i64 j ∧ i < j ∧ j ≤ n ∧ Hid (RepI wr base g n c l' cur) ∧ Hid (l'.take i = Tr.delT key (l.take j)) ∧ Hid (l'.drop j = l.drop j) ∧ Hid (Turn [g] w wr)) (fun _ sj _ => n - (intOf sj).toNat)
   case atStart => exact ⟨i0, i0 + 1, l, cur0, rfl, by first | rfl | go_num, by omega, by omega, ⟨HR0.out.row.below HB2.out, HR0.out.size, HR0.out.le, HR0.out.most, HR0.out.base_, HR0.out.cells, HR0.out.len⟩, HD0.out.symm, rfl, Turn.of HB2.out⟩
   case round =>
    obtain ⟨i, j, l', cur, rfl, rfl, hij, hjn, HR, HT1, HT2, HTn⟩ := hrel
    clear HB2 HR0 HD0 HI
    have hn3 : (n : Int) ≤ (c : Int) := by have := HR.out.le; omega
    by_cases hlt : j < n
    · have hjl : j < l.length := by rw [HL.out]; exact hlt
      have hjl' : j < l'.length := by rw [HR.out.len]; exact hlt
      have HXe : Hid (l'[j] = l[j]) := by
       have h := HT2.out
       rw [List.drop_eq_getElem_cons hjl', List.drop_eq_getElem_cons hjl] at h
       exact (List.cons.inj h).1
      have HT3 : Hid (l'.drop (j + 1) = l.drop (j + 1)) := by
       have h := HT2.out
       rw [List.drop_eq_getElem_cons hjl', List.drop_eq_getElem_cons hjl] at h
       exact (List.cons.inj h).2
      obtain ⟨gi, oi, he, -, -, hat⟩ := q0Z (HR.out.own.rd (by rw [HR.out.len]; omega)) (by omega)
      simp only [Option.some.injEq, Addr.mk.injEq] at he
      obtain ⟨rfl, rfl, -⟩ := he
      obtain ⟨d0, d1⟩ := hat j hjl'
      rw [Nat.zero_add] at d0 d1
      rw [HXe.out] at d0 d1
      have HSt : Hid _ := Tr.delT_step (key := key) hjl
      have hjn0 : (j : Int) < (n : Int) := by omega
      have hj0 : (0 : Int) ≤ (j : Int) := Int.natCast_nonneg _
      have hi0 : (0 : Int) ≤ (i : Int) := Int.natCast_nonneg _
      have hin0 : (i : Int) < (n : Int) := by omega
      have hwj : IntKind.i64.wrap ((j : Int) + 1) = ((j + 1 : Nat) : Int) := by rw [IntKind.wrap_i64]; omega
      have hwi : IntKind.i64.wrap ((i : Int) + 1) = ((i + 1 : Nat) : Int) := by rw [IntKind.wrap_i64]; omega
      have HVr : Hid (Row wr bk 39 [.int .u64 (key.toNat : Int)]) := HTn.out.row HV.out (by simp; exact HBk.out)
      generalize l[j] = X at *
      obtain ⟨w3, hw3, V3, b3, z3⟩ := q0q wr 45 [.int .u64 (X.1.toNat : Int), .int .u64 (X.2.toNat : Int)]
      obtain ⟨c0, c1⟩ := V3.two
      have hc := delAsk_u w3 X bk key (HVr.out.below b3)
      have HV3 : Hid _ := V3
      have B3 : Hid _ := b3
      have HGr : Hid (g < wr.heap.size) := HR.out.row.lt
      clear hat V3 b3 z3
      by_cases q : X.1 = key
      · rw [decide_eq_true q] at hc
        have HD : Hid (l'.take i = Tr.delT key (l.take (j + 1))) := by unfold Hid; rw [HSt.out, if_pos q]; exact HT1.out
        clear q HSt
        go_wp2_with (go_at_call 34; refine hc.mono ?_; rintro e w5 ⟨rfl, b5⟩)
        go_roundw
        case rel => exact ⟨i, j + 1, l', cur, rfl, by first | rfl | go_num, by omega, by omega, ⟨HR.out.row.below (on B3.out b5), HR.out.size, HR.out.le, HR.out.most, HR.out.base_, HR.out.cells, HR.out.len⟩, HD, HT3, HTn.out.on (on B3.out b5)⟩
        case measure => simp [intOf]; omega
      · rw [decide_eq_false q] at hc
        go_wp2_with fail
        go_at_call 34
        refine hc.mono ?_
        rintro e w5 ⟨rfl, b5⟩
        have B5 : Hid _ := on B3.out b5
        obtain ⟨x0, x1⟩ := (HV3.out.below b5).two
        have R5 : RepI w5 base g n c l' cur := ⟨HR.out.row.below B5.out, HR.out.size, HR.out.le, HR.out.most, HR.out.base_, HR.out.cells, HR.out.len⟩
        have HR6 : Hid _ := R5.set (show i < n by omega) X
        have f0 := R5.row.frozen (i * 2)
        have f1 := R5.row.frozen (i * 2 + 1)
        have hlen : i * 2 + 1 < cur.length := by rw [R5.size]; have := R5.le; omega
        obtain ⟨y0, hy0⟩ : ∃ y, w5.cell? ⟨g, i * 2, none⟩ = some y := ⟨_, R5.row.cell (zw3 (by omega))⟩
        obtain ⟨y1, hy1⟩ : ∃ y, w5.cell? ⟨g, i * 2 + 1, none⟩ = some y := ⟨_, R5.row.cell (zw3 hlen)⟩
        have HT6 : Hid (Turn [g] w ((w5.setCell ⟨g, i * 2, none⟩ (.int .u64 (X.1.toNat : Int))).setCell ⟨g, i * 2 + 1, none⟩ (.int .u64 (X.2.toNat : Int)))) := ((HTn.out.on B5.out).set (p := ⟨g, i * 2, none⟩) (.inr (by simp)) _).set (p := ⟨g, i * 2 + 1, none⟩) (.inr (by simp)) _
        have HD : Hid ((l'.set i X).take (i + 1) = Tr.delT key (l.take (j + 1))) := by
         unfold Hid
         rw [HSt.out, if_neg q, ← HT1.out, List.take_set, List.take_succ_eq_append_getElem (show i < l'.length by omega), List.set_append_right _ _ (by rw [zw4]; omega), zw4, show i - min i l'.length = 0 by omega]
         rfl
        have HT4 : Hid ((l'.set i X).drop (j + 1) = l.drop (j + 1)) := by unfold Hid; rw [List.drop_set_of_lt (by omega)]; exact HT3.out
        clear q HSt b5 R5 hlen
        go_wp2
        go_roundw
        case rel => exact ⟨i + 1, j + 1, l'.set i X, _, by first | rfl | go_num, by first | rfl | go_num, by omega, by omega, HR6, HD, HT4, HT6⟩
        case measure => simp [intOf]; omega
    · obtain rfl : j = n := by omega
      obtain ⟨w6, zs, hzl, hr6, R6, K6, S6⟩ := qKX (Pr := Tryz.prog) wr 36 0 45 Tryz.underlying36 _ zero_itm rfl (by decide) (some ⟨g, i * 2, none⟩) (j - i) (c - i) g (i * 2) _ _ HR.out.row (fun _ => rfl) (by rw [HR.out.size]; have := HR.out.le; omega)
      have HD : Hid (l'.take i = Tr.delT key l) := by have h := HT1.out; rw [show l.take j = l from List.take_of_length_le (by rw [HL.out]; exact zw0 _)] at h; exact h
      have HO : Hid (OwnI 45 w6 base (.slice (some ⟨g, 0, none⟩) i c) (Tr.delT key l)) := by
       rw [← HD.out]
       refine qGZ R6 ?_ HR.out.most HR.out.base_ ?_ (by have := HR.out.le; omega) ?_
       · rw [length_splice _ _ _ (by rw [hzl, HR.out.size]; have := HR.out.le; omega)]; exact HR.out.size
       · rw [zw4, HR.out.len]; omega
       · rw [q5q (zw0 _) (by rw [HR.out.size]; have := HR.out.le; omega), q7X, ← HR.out.cells, List.take_take, Nat.min_eq_left (by omega)]
      have HG : Hid (Grew w w6 (.slice (some ⟨g, 0, none⟩) j c) (.slice (some ⟨g, 0, none⟩) i c)) := by
       refine ⟨⟨K6.os.trans HTn.out.os, K6.tape.trans HTn.out.tape, K6.output.trans HTn.out.output, zw1 HTn.out.size K6.size, fun q hq hne => ?_⟩, fun b e => .inl e⟩
       have hqg : q ≠ g := fun e => hne (by rw [e]; rfl)
       exact (K6.block q hqg).trans (HTn.out.block q ⟨hq, by simp; exact hqg⟩)
      have hi0 : (0 : Int) ≤ (i : Int) := Int.natCast_nonneg _
      have hin0 : (i : Int) ≤ (j : Int) := by omega
      have hic : (i : Int) ≤ (c : Int) := by omega
      have hne1 : ¬ (c = i) := by have := HR.out.le; omega
      clear hzl R6 K6 S6 HT1 HT2
      go_wp2
      go_ret
      exact ⟨_, _, _, rfl, HO.out, HG.out⟩
theorem del1_turner (key : UInt64) (bk B : Nat) (hb : bk < B) : qEz (Tr.delT key) 32 #[.pointer (some ⟨bk, 0, none⟩)] B (fun w => Row w bk 39 [.int .u64 (key.toNat : Int)]) := by
 refine ⟨enters_of Tryz.func32 (by kernel_rfl) rfl, (fun l h => zw1 ((Tr.acts_del key).few l) (by omega)), (fun h k => h.keep (k.block _ hb)), ?_⟩
 intro w base a n c l hJ hB hbase hO hl3 hrise
 have hn : n = l.length := by obtain ⟨p, q, e, -⟩ := hO.slice; simp only [Value.slice.injEq] at e; exact e.2.1
 have HC : Hid _ := delFunc_u w base a n c l hO (by omega) bk key hJ hbase
 have hmf : ∀ (fn : Fn) (first cap : Array Value) (w : World), (Instr.makeFunc fn first cap).run Tryz.prog w = .ok (.func fn first cap) w := fun _ _ _ _ => rfl
 show Calls Tryz.prog 32 #[.slice a n c, .pointer (some ⟨bk, 0, none⟩)] w _
 clear hJ hO hB hbase hl3 hrise hn
 go_enter Tryz.func32, Tryz.ntmps32
 go_wp2_with fail
 go_at_call 33
 refine Calls.mono HC.out ?_
 rintro e w2 ⟨ra, rn, rc, rfl, ho, gr⟩
 have HO : Hid _ := ho
 have HG : Hid _ := gr
 clear ho gr
 go_wp2
 go_ret
 exact ⟨_, _, _, rfl, HO.out, HG.out⟩
namespace Tr
def getO (l : List Itm) (key : UInt64) : Option UInt64 := (floorOf l key).bind fun x => if x.1 = key then some x.2 else none
theorem getO_has {l : List Itm} (h : Up l) (key : UInt64) : (getO l key).isSome = l.any fun y => decide (y.1 = key) := by
 unfold getO floorOf
 cases hb : (l.any fun y => decide (y.1 = key)) with
 | true =>
   obtain ⟨y, hy, e⟩ := List.any_eq_true.1 hb
   simp only [decide_eq_true_eq] at e
   have hm : y ∈ l.filter fun x => decide (x.1.toNat ≤ key.toNat) := List.mem_filter.2 ⟨hy, by simp [e]⟩
   have hne : (l.filter fun x => decide (x.1.toNat ≤ key.toNat)) ≠ [] := fun e' => by rw [e'] at hm; cases hm
   rw [List.getLast?_eq_some_getLast hne]
   have hz := List.getLast_mem hne
   have hle : ((l.filter fun x => decide (x.1.toNat ≤ key.toNat)).getLast hne).1.toNat ≤ key.toNat := by simpa using (List.mem_filter.1 hz).2
   have hup : Up (l.filter fun x => decide (x.1.toNat ≤ key.toNat)) := List.Pairwise.sublist List.filter_sublist h
   have hge : y.1.toNat ≤ ((l.filter fun x => decide (x.1.toNat ≤ key.toNat)).getLast hne).1.toNat := by
    have := le_keyL hup hm
    unfold keyL at this
    rw [List.getLast?_eq_some_getLast hne] at this
    exact this
   have hk : ((l.filter fun x => decide (x.1.toNat ≤ key.toNat)).getLast hne).1 = key := UInt64.toNat_inj.1 (by rw [e] at hge; omega)
   rw [Option.bind_some, if_pos hk]
   rfl
 | false =>
   cases hc : (l.filter fun x => decide (x.1.toNat ≤ key.toNat)).getLast? with
   | none => rfl
   | some x =>
     have hx : x ∈ l := (List.mem_filter.1 (List.mem_of_getLast? hc)).1
     have hne : x.1 ≠ key := fun e => by
      have : (l.any fun y => decide (y.1 = key)) = true := List.any_eq_true.2 ⟨x, hx, by simp [e]⟩
      rw [hb] at this; cases this
     rw [Option.bind_some, if_neg hne]
     rfl
end Tr
theorem tget_u (w : World) (P : Nat → Prop) (s : Pgs) (root : Int) (key : UInt64) (pa : Option Addr) (pc : Nat) (hR : rSectors.rd w P [.slice pa s.length pc] s) (h0 : -9223372036854775808 ≤ root) (h1 : root ≤ 9223372036854775807) :
 Calls Tryz.prog 29 #[.agg #[.slice pa s.length pc], .int .i64 root, .int .u64 (key.toNat : Int)] w fun e w' => e = .returned (.tuple #[.int .u64 (((Tr.getO (Tr.readI s root) key).getD 0).toNat : Int), .bool (Tr.getO (Tr.readI s root) key).isSome, .int .i64 (Tr.readE s root)]) ∧ Below w.heap.size w w' := by
 obtain ⟨wa, hwa, Va, ba, za⟩ := q0q w 26 [.slice pa s.length pc]
 have a0 := Va.cell (j := 0) rfl
 have BA : Hid _ := ba
 have HC : Hid _ := tfloor_u wa P s root key pa pc (Rep.below hR ba) h0 h1
 have HE0 : Hid (∀ x, Tr.floorOf (Tr.readI s root) key = some x → Tr.readE s root = 0) := fun x hx => by
  by_cases h : Tr.readE s root = 0
  · exact h
  · rw [Tr.readI_bad h] at hx; cases hx
 clear Va ba za hR
 go_enter Tryz.func29, Tryz.ntmps29
 go_wp2_with fail
 go_at_call 50
 refine Calls.mono HC.out ?_
 rintro e w2 ⟨rfl, b2⟩
 have B2 : Hid _ := on BA.out b2
 cases hf : Tr.floorOf (Tr.readI s root) key with
 | none =>
   obtain ⟨w4, hw4, V4, b4, z4⟩ := q0q w2 45 [.int .u64 0, .int .u64 0]
   have B4 : Hid _ := on B2.out b4
   have HG : Hid (Tr.getO (Tr.readI s root) key = none) := by unfold Hid Tr.getO; rw [hf]; rfl
   rw [show (((none : Option Itm).getD (0, 0)).1.toNat : Int) = 0 from rfl, show (((none : Option Itm).getD (0, 0)).2.toNat : Int) = 0 from rfl, show (none : Option Itm).isSome = false from rfl]
   obtain ⟨c0, c1⟩ := V4.two
   have f0 := V4.frozen 0
   have f1 := V4.frozen 1
   have HS : Hid (w.heap.size ≤ w2.heap.size) := B2.out.size
   obtain ⟨w5, hw5, V5, K5⟩ := V4.whole2 (.int .u64 0) (.int .u64 0)
   obtain ⟨d0, d1⟩ := V5.two
   have B5 : Hid (Below w.heap.size w w5) := Kept.belowOf B4.out K5 HS.out
   clear V4 b4 z4 b2 hf V5 K5
   go_wp2
   go_ret3
   exact ⟨by rw [HG.out]; rfl, B5.out⟩
 | some x =>
   have hE := HE0.out x hf
   obtain ⟨w4, hw4, V4, b4, z4⟩ := q0q w2 45 [.int .u64 (x.1.toNat : Int), .int .u64 (x.2.toNat : Int)]
   have B4 : Hid _ := on B2.out b4
   obtain ⟨c0, c1⟩ := V4.two
   have HE : Hid _ := hE
   simp only [Option.getD_some, Option.isSome_some, hE]
   by_cases hk : x.1 = key
   · obtain ⟨xk, xv⟩ := x
     simp only at hk
     subst hk
     have hk : ((xk, xv) : Itm).1 = xk := rfl
     have HG : Hid (Tr.getO (Tr.readI s root) xk = some xv) := by unfold Hid Tr.getO; rw [hf]; simp
     clear V4 b4 z4 b2 hf hk hE
     go_wp2
     go_ret3
     exact ⟨by rw [HG.out, HE.out]; rfl, B4.out⟩
   · have HG : Hid (Tr.getO (Tr.readI s root) key = none) := by unfold Hid Tr.getO; rw [hf]; simp [hk]
     have hne : ¬ (x.1.toNat : Int) = (key.toNat : Int) := fun e => hk (UInt64.toNat_inj.1 (by omega))
     have hz : ((x.1.toNat : Int) == (key.toNat : Int)) = false := beq_eq_false_iff_ne.2 hne
     clear V4 b4 z4 b2 hf hk hE
     go_wp2
     go_ret3
     exact ⟨by rw [HG.out, HE.out]; rfl, B4.out⟩
theorem results_row3 {Pr : Program} {fn : Func} {p q r u : Tmp} {ty t : TypeId} {tmps : Array Value} {w : World} {b : Nat} {xs : List Value} {d : TypeDesc} (h : fn.results = #[.cell p ty, .tmp q, .tmp r, .tmp u]) (hp : tmps.getD p undef = .pointer (some ⟨b, 0, none⟩))
 (V : Row w b t xs) (hu : Pr.underlying ty = some d) (hd : d.isRow = true) (hi : (Pr.info? ty).map (·.size) = some xs.length) : (results fn tmps).run Pr w = .ok (.tuple #[.agg xs.toArray, tmps.getD q undef, tmps.getD r undef, tmps.getD u undef]) w := by
 have hp' : tmps[p]?.getD undef = .pointer (some ⟨b, 0, none⟩) := by simpa using hp
 simp [results, h, hp', asAddr, run_loadVar_mid w b 0 ty xs d V.range hu hd hi]
theorem qMx {Pr : Program} {fn : Func} {p q r u : Tmp} {ty t : TypeId} {tmps : Array Value} {w2 : World} {b : Nat} {d : TypeDesc} {x0 : Value} (V : Row w2 b t [x0])
 (u0 : Value) (h : fn.results = #[.cell p ty, .tmp q, .tmp r, .tmp u]) (hp : tmps.getD p undef = .pointer (some ⟨b, 0, none⟩))
 (hu : Pr.underlying ty = some d) (hd : d.isRow = true) (hi : (Pr.info? ty).map (·.size) = some 1) {R : Ending → World → Prop}
 (hR : ∀ w', Kept (· ≠ b) w2 w' → R (.returned (.tuple #[.agg #[u0], tmps.getD q undef, tmps.getD r undef, tmps.getD u undef])) w') :
 bodyPost Pr fn R .ret { tmps := tmps, defers := [] } (w2.setCell ⟨b, 0, none⟩ u0) := by
 have hr := results_row3 (Pr := Pr) (fn := fn) h hp (V.set 0 u0) hu hd hi
 exact bodyPost_ret hr rfl (hR _ ((Kept.refl _ w2).setCell (p := ⟨b, 0, none⟩) (fun h => h rfl) u0))
namespace Tr
theorem del51 {key : UInt64} {s : Pgs} {root : Int} (h : readE s root = 0) : ∀ y, changed (delT key) key s root 16 = .error y → y = 51 := fun y hy => by
 rcases q7Z (acts_del key) h with ⟨h1, -⟩ | ⟨s', r, h1, -⟩
 · rw [h1] at hy; cases hy; rfl
 · rw [h1] at hy; cases hy
end Tr
structure DelDone (s : Pgs) (root : Int) (key : UInt64) (w : World) (e : Ending) (w' : World) : Prop where
 below : Below w.heap.size w w'
 bad : Tr.readE s root ≠ 0 → e = .returned (.tuple #[.agg #[.slice none 0 0], .int .i64 0, .bool false, .int .i64 (Tr.readE s root)])
 not_ : Tr.readE s root = 0 → Tr.getO (Tr.readI s root) key = none → ∃ a c, e = .returned (.tuple #[.agg #[.slice a s.length c], .int .i64 root, .bool false, .int .i64 0]) ∧ rSectors.rd w' (fun b => w.heap.size ≤ b) [.slice a s.length c] s
 full : Tr.readE s root = 0 → (Tr.getO (Tr.readI s root) key).isSome = true → ∀ x, Tr.changed (Tr.delT key) key s root 16 = .error x → e = .returned (.tuple #[.agg #[.slice none 0 0], .int .i64 0, .bool false, .int .i64 x])
 gone : Tr.readE s root = 0 → (Tr.getO (Tr.readI s root) key).isSome = true → ∀ s' q, Tr.changed (Tr.delT key) key s root 16 = .ok (s', q) → ∃ a c, e = .returned (.tuple #[.agg #[.slice a s'.length c], .int .i64 q, .bool true, .int .i64 0]) ∧ rSectors.rd w' (fun b => w.heap.size ≤ b) [.slice a s'.length c] s' ∧ s'.length ≤ 2048
theorem delete_u (w : World) (P : Nat → Prop) (s : Pgs) (root : Int) (key : UInt64) (pa : Option Addr) (pc : Nat) (hR : rSectors.rd w P [.slice pa s.length pc] s) (h0 : -9223372036854775808 ≤ root) (h1 : root ≤ 9223372036854775807) :
 Calls Tryz.prog 14 #[.agg #[.slice pa s.length pc], .int .i64 root, .int .u64 (key.toNat : Int)] w fun e w' => DelDone s root key w e w' := by
 obtain ⟨wa, hwa, Va, ba, za⟩ := q0q w 26 [.slice pa s.length pc]
 obtain ⟨wb, hwb, Vb, bb, zb⟩ := q0q wa 39 [.int .u64 (key.toNat : Int)]
 obtain ⟨wc, hwc, Vc, bc, zc⟩ := q0q wb 26 [.slice none 0 0]
 have HVa : Hid _ := (Va.below bb).below bc
 have HVb : Hid (Row wc wa.heap.size 39 [.int .u64 (key.toNat : Int)]) := Vb.below bc
 have HVc : Hid _ := Vc
 have BC : Hid (Below w.heap.size w wc) := on (on ba bb) bc
 have HR : Hid (rSectors.rd wc P [.slice pa s.length pc] s) := Rep.below hR BC.out
 have HZ : Hid (wa.heap.size = w.heap.size + 1 ∧ wb.heap.size = w.heap.size + 2 ∧ wc.heap.size = w.heap.size + 3) := ⟨za, by omega, by omega⟩
 have hmf : ∀ (fn : Fn) (first cap : Array Value) (w : World), (Instr.makeFunc fn first cap).run Tryz.prog w = .ok (.func fn first cap) w := fun _ _ _ _ => rfl
 have a0 := HVa.out.cell (j := 0) rfl
 have a1 := HVb.out.cell (j := 0) rfl
 clear Va Vb Vc ba bb bc za zb zc hR
 go_enter Tryz.func14, Tryz.ntmps14
 go_wp2_with fail
 go_at_call 29
 refine (tget_u wc P s root key pa pc HR.out h0 h1).mono ?_
 rintro e w1 ⟨rfl, b1⟩
 have HVa1 : Hid _ := HVa.out.below b1
 have HVb1 : Hid _ := HVb.out.below b1
 have HVc1 : Hid _ := HVc.out.below b1
 have B1 : Hid _ := on BC.out b1
 have HR1 : Hid (rSectors.rd w1 P [.slice pa s.length pc] s) := Rep.below HR.out b1
 have HS1 : Hid (wb.heap.size < w1.heap.size) := HVc1.out.lt
 clear a0 a1 b1 HVa HVb HVc HR
 have f0 := HVa1.out.cell (j := 0) rfl
 have f1 := HVb1.out.cell (j := 0) rfl
 have g0 := HVc1.out.cell (j := 0) rfl
 have g2 := HVc1.out.frozen 0
 by_cases hE : Tr.readE s root = 0
 · have HE : Hid (Tr.readE s root = 0) := hE
   have HRt : Hid _ := Tr.readE_root hE
   rw [hE]
   cases hG : Tr.getO (Tr.readI s root) key with
   | none =>
     have HG : Hid (Tr.getO (Tr.readI s root) key = none) := hG
     rw [show (((none : Option UInt64).getD 0).toNat : Int) = 0 from rfl, show (none : Option UInt64).isSome = false from rfl]
     have HCp : Hid _ := tcopied_u w1 P pa s.length pc s HR1.out HRt.out.1
     clear hE hG g0 g2
     go_wp2_with fail
     go_at_call 30
     refine Calls.mono HCp.out ?_
     rintro e w2 ⟨rfl, hPg, b2⟩
     have Vs : Hid _ := HVc1.out.below b2
     have B2 : Hid _ := on B1.out b2
     have HRd : Hid (rSectors.rd w2 (fun b => w1.heap.size ≤ b) [.slice (some ⟨w1.heap.size, 0, none⟩) s.length s.length] s) := hPg.rd HRt.out.1
     have g0 := Vs.out.cell (j := 0) rfl
     have g2 := Vs.out.frozen 0
     clear hPg b2
     go_wp2
     exact qMx Vs.out _ rfl rfl Tryz.underlying26 rfl (by kernel_rfl) (fun w' k' => ⟨Kept.belowOf B2.out k' (by have := HZ.out; omega), (fun h => absurd HE.out h), (fun _ _ => ⟨_, _, rfl, rSectors.weaken (Rep.kept HRd.out k' (fun b hb _ => by have h1 := HS1.out; show b ≠ wb.heap.size; have h2 : w1.heap.size ≤ b := hb; omega)) (fun b hb _ => by have h1 := B1.out.size; have h2 : w1.heap.size ≤ b := hb; omega)⟩), (fun _ h => by rw [HG.out] at h; cases h), (fun _ h => by rw [HG.out] at h; cases h)⟩)
   | some gv =>
     have HG : Hid (Tr.getO (Tr.readI s root) key = some gv) := hG
     simp only [Option.getD_some, Option.isSome_some]
     have HT : Hid _ := del1_turner key wa.heap.size (w.heap.size + 2) (by have := HZ.out; omega)
     have HCd : Hid _ := changed_u (key := key) HT.out 16 w1 P pa pc s HR1.out HRt.out.1 HVb1.out (by have := HZ.out; have := HS1.out; omega) root HRt.out.2.1 HRt.out.2.2 (Tr.del51 hE)
     clear hE hG g0 g2
     go_wp2_with fail
     go_at_call 31
     refine Calls.mono HCd.out ?_
     rintro e w2 ⟨b2, hno, hyes⟩
     have Vs : Hid _ := HVc1.out.below b2
     have B2 : Hid _ := on B1.out b2
     rcases hr : Tr.changed (Tr.delT key) key s root 16 with y | ⟨s', q⟩
     · obtain rfl := hno y hr
       obtain rfl := Tr.del51 HE.out y hr
       have HRr : Hid _ := hr
       obtain ⟨w3, hw3, V3, b3, z3⟩ := q0q w2 26 [.slice none 0 0]
       have d0 := V3.cell (j := 0) rfl
       have d1 := V3.frozen 0
       obtain ⟨w4, hw4⟩ : ∃ w4, w3.setCell ⟨w2.heap.size, 0, none⟩ (.slice none 0 0) = w4 := ⟨_, rfl⟩
       have V4 : Row w4 w2.heap.size 26 [.slice none 0 0] := by rw [← hw4]; exact V3.set 0 _
       have K4 : Kept (· ≠ w2.heap.size) w3 w4 := by rw [← hw4]; exact (Kept.refl _ w3).setCell (p := ⟨w2.heap.size, 0, none⟩) (fun h => h rfl) _
       have e0 := V4.cell (j := 0) rfl
       have Vs4 : Hid (Row w4 wb.heap.size 26 [.slice none 0 0]) := (Vs.out.below b3).keep (K4.block _ (by have := Vs.out.lt; show wb.heap.size ≠ w2.heap.size; omega))
       have B4 : Hid (Below w.heap.size w w4) := Kept.belowOf (on B2.out b3) K4 B2.out.size
       have g0 := Vs4.out.cell (j := 0) rfl
       have g2 := Vs4.out.frozen 0
       clear hno hyes b2 hr b3 z3 V3 V4 K4
       go_wp2
       exact qMx Vs4.out _ rfl rfl Tryz.underlying26 rfl (by kernel_rfl) (fun w' k' => ⟨Kept.belowOf B4.out k' (by have := HZ.out; omega), (fun h => absurd HE.out h), (fun _ h => by rw [HG.out] at h; cases h), (fun _ _ x h => by rw [HRr.out] at h; cases h; rfl), (fun _ _ s' q h => by rw [HRr.out] at h; cases h)⟩)
     · obtain ⟨va, vc, rfl, hrd, hlen⟩ := hyes s' q hr
       have HRr : Hid _ := hr
       have HRd : Hid _ := hrd
       have HL : Hid _ := hlen
       obtain ⟨w3, hw3, V3, b3, z3⟩ := q0q w2 26 [.slice va s'.length vc]
       have d0 := V3.cell (j := 0) rfl
       have Vs4 : Hid _ := Vs.out.below b3
       have B4 : Hid _ := on B2.out b3
       have HRd3 : Hid (rSectors.rd w3 (fun b => w1.heap.size ≤ b) [.slice va s'.length vc] s') := Rep.below HRd.out b3
       have g0 := Vs4.out.cell (j := 0) rfl
       have g2 := Vs4.out.frozen 0
       clear hno hyes b2 hr hrd hlen b3 z3 V3
       go_wp2
       exact qMx Vs4.out _ rfl rfl Tryz.underlying26 rfl (by kernel_rfl) (fun w' k' => ⟨Kept.belowOf B4.out k' (by have := HZ.out; omega), (fun h => absurd HE.out h), (fun _ h => by rw [HG.out] at h; cases h), (fun _ _ x h => by rw [HRr.out] at h; cases h), (fun _ _ s2 q2 h => by rw [HRr.out] at h; cases h; exact ⟨va, vc, rfl, rSectors.weaken (Rep.kept HRd3.out k' (fun b hb _ => by have h1 := HS1.out; show b ≠ wb.heap.size; have h2 : w1.heap.size ≤ b := hb; omega)) (fun b hb _ => by have h1 := B1.out.size; have h2 : w1.heap.size ≤ b := hb; omega), HL.out⟩)⟩)
 · have HE : Hid (Tr.readE s root ≠ 0) := hE
   have hEz : (Tr.readE s root == 0) = false := beq_eq_false_iff_ne.2 hE
   have HG : Hid (Tr.getO (Tr.readI s root) key = none) := by unfold Hid Tr.getO; rw [Tr.readI_bad hE]; rfl
   clear hE
   go_wp2
   exact qMx HVc1.out _ rfl rfl Tryz.underlying26 rfl (by kernel_rfl) (fun w' k' => ⟨Kept.belowOf B1.out k' (by have := HZ.out; omega), (fun _ => rfl), (fun h => absurd h HE.out), (fun h => absurd h HE.out), (fun h => absurd h HE.out)⟩)
namespace Tr
def delA (s : Pgs) (root : Int) (key : UInt64) : Pgs × Int × Bool × Int :=
 if readE s root = 0 then
  if (getO (readI s root) key).isSome = true then
   match changed (delT key) key s root 16 with
   | .error x => ([], 0, false, x)
   | .ok r => (r.1, r.2, true, 0)
  else (s, root, false, 0)
 else ([], 0, false, readE s root)
theorem getO_any {s : Pgs} {root : Int} (key : UInt64) : (getO (readI s root) key).isSome = (readI s root).any fun y => decide (y.1 = key) := getO_has qMj key
theorem del_cases (s : Pgs) (root : Int) (key : UInt64) :
 (readE s root ≠ 0 ∧ delA s root key = ([], 0, false, readE s root)) ∨ (readE s root = 0 ∧ delA s root key = ([], 0, false, 51) ∧ 2048 < s.length + 26) ∨
 (readE s root = 0 ∧ delA s root key = (s, root, false, 0) ∧ (∀ y ∈ readI s root, y.1 ≠ key)) ∨
 (∃ s' q, readE s root = 0 ∧ delA s root key = (s', q, true, 0) ∧ (∃ y ∈ readI s root, y.1 = key) ∧ qTx (delT key) s root s' q) := by
 unfold delA
 by_cases h : readE s root = 0
 · rw [if_pos h]
   by_cases hg : (getO (readI s root) key).isSome = true
   · rw [if_pos hg]
     have hy : ∃ y ∈ readI s root, y.1 = key := by
      rw [getO_any, List.any_eq_true] at hg
      obtain ⟨y, hy, e⟩ := hg
      exact ⟨y, hy, by simpa using e⟩
     rcases q7Z (acts_del key) h with ⟨h1, h2⟩ | ⟨s', q, h1, h2⟩
     · rw [h1]; exact .inr (.inl ⟨h, rfl, h2⟩)
     · rw [h1]; exact .inr (.inr (.inr ⟨s', q, h, rfl, hy, h2⟩))
   · rw [if_neg hg]
     refine .inr (.inr (.inl ⟨h, rfl, fun y hy e => hg ?_⟩))
     rw [getO_any, List.any_eq_true]
     exact ⟨y, hy, by simp [e]⟩
 · rw [if_neg h]; exact .inl ⟨h, rfl⟩
end Tr
theorem del8_u (w : World) (P : Nat → Prop) (s : Pgs) (root : Int) (key : UInt64) (pa : Option Addr) (n pc : Nat) (hR : rSectors.rd w P [.slice pa n pc] s) (h0 : -9223372036854775808 ≤ root) (h1 : root ≤ 9223372036854775807) :
 Calls Tryz.prog 14 #[.agg #[.slice pa n pc], .int .i64 root, .int .u64 (key.toNat : Int)] w fun e w' => ∃ a m c, e = .returned (.tuple #[.agg #[.slice a m c], .int .i64 (Tr.delA s root key).2.1, .bool (Tr.delA s root key).2.2.1, .int .i64 (Tr.delA s root key).2.2.2]) ∧ rSectors.rd w' (fun b => w.heap.size ≤ b) [.slice a m c] (Tr.delA s root key).1 ∧ Below w.heap.size w w' := by
 obtain rfl : n = s.length := (q0x hR).1.symm
 refine (delete_u w P s root key pa pc hR h0 h1).mono ?_
 intro e w' hD
 unfold Tr.delA
 by_cases h : Tr.readE s root = 0
 · rw [if_pos h]
   by_cases hg : (Tr.getO (Tr.readI s root) key).isSome = true
   · rw [if_pos hg]
     cases hc : Tr.changed (Tr.delT key) key s root 16 with
     | error x => exact ⟨none, 0, 0, hD.full h hg x hc, qCz _ _, hD.below⟩
     | ok r =>
       obtain ⟨s', q⟩ := r
       obtain ⟨a, c, h2, h3, -⟩ := hD.gone h hg s' q hc
       exact ⟨a, _, c, h2, h3, hD.below⟩
   · rw [if_neg hg]
     have hn : Tr.getO (Tr.readI s root) key = none := by
      cases hx : Tr.getO (Tr.readI s root) key with
      | none => rfl
      | some y => rw [hx] at hg; exact absurd rfl hg
     obtain ⟨a, c, h2, h3⟩ := hD.not_ h hn
     exact ⟨a, _, c, h2, h3, hD.below⟩
 · rw [if_neg h]
   exact ⟨none, 0, 0, hD.bad h, qCz _ _, hD.below⟩
theorem ref8_u (w : World) (P : Nat → Prop) (s : Pgs) (a : Option Addr) (n c : Nat) (hR : rSectors.rd w P [.slice a n c] s) :
 Calls Tryz.prog 19 #[.agg #[.slice a n c]] w fun e w' => ∃ b d, e = .returned (.agg #[.slice b n d]) ∧ rSectors.rd w' (fun k => w.heap.size ≤ k) [.slice b n d] s ∧ Below w.heap.size w w' := by
 obtain ⟨w1, hw1, V1, b1, z1⟩ := q0q w 26 [.slice a n c]
 obtain ⟨w2, hw2, V2, b2, z2⟩ := q0q w1 24 [.slice none 0 0]
 have B2 : Hid (Below w.heap.size w w2) := on b1 b2
 have HV2 : Hid _ := V2
 have HZ : Hid (w.heap.size ≤ w1.heap.size) := b1.size
 have HZ1 : Hid (w1.heap.size = w.heap.size + 1) := z1
 have HC : Hid _ := qVJ w2 P a n c s (Rep.below hR B2.out)
 have c0 := (V1.below b2).cell (j := 0) rfl
 clear V1 V2 b1 b2 z1 z2 hR
 go_enter Tryz.func19, Tryz.ntmps19
 go_wp2_with fail
 go_at_call 20
 refine Calls.mono HC.out ?_
 rintro e w3 ⟨b, d, rfl, hr, b3⟩
 have HV3 : Hid _ := HV2.out.below b3
 have HR3 : Hid _ := hr
 have B3 : Hid _ := on B2.out b3
 have HS2 : Hid (w1.heap.size < w2.heap.size) := HV2.out.lt
 have e0 := HV3.out.cell (j := 0) rfl
 have e1 := HV3.out.frozen 0
 clear hr b3
 go_wp2
 have hk : Kept (· ≠ w1.heap.size) w3 (w3.setCell ⟨w1.heap.size, 0, none⟩ (.slice b n d)) := (Kept.refl _ w3).setCell (p := ⟨w1.heap.size, 0, none⟩) (fun h => h rfl) _
 refine bodyPost_ret (q8Z (xs := [.slice b n d]) rfl (by first | rfl | (simp only [HZ1.out]; rfl)) (HV3.out.set 0 _) Tryz.underlying24 rfl (by kernel_rfl)) rfl ⟨b, d, rfl, ?_, Kept.belowOf B3.out hk (by have := HZ.out; omega)⟩
 exact rSectors.weaken (Rep.kept HR3.out hk (fun q hq _ => by have h1 : w2.heap.size ≤ q := hq; have h2 := HS2.out; show q ≠ w1.heap.size; omega)) (fun q hq _ => by have h1 : w2.heap.size ≤ q := hq; have h2 := HS2.out; have h3 := HZ.out; show w.heap.size ≤ q; omega)
theorem q8x {w w1 : World} {oa : Option Addr} {on_ oc : Nat} {O : List Itm} (hO : OwnI 45 w w1.heap.size (.slice oa on_ oc) O) (hB : Below w1.heap.size w1 w) (x : Itm) (hl : O.length ≤ 999999) :
 ∃ a n c w', (Builtin.append_ #[36, 36] 36 #[.slice oa on_ oc, .slice (some ⟨w.heap.size, 0, none⟩) 1 1]).run Tryz.prog (w.alloc (.cells #[.int .u64 (x.1.toNat : Int), .int .u64 (x.2.toNat : Int)] 45)) = .ok (.slice a n c) w' ∧ OwnI 45 w' w1.heap.size (.slice a n c) (O ++ [x]) ∧ n = (O ++ [x]).length ∧ Below w1.heap.size w1 w' := by
 obtain ⟨v', w', hr, ho, g⟩ := q5z hO x hl hB.size 36
 obtain ⟨a, c, rfl, -⟩ := ho.slice
 have hA : OwnI 45 (w.alloc (.cells #[.int .u64 (x.1.toNat : Int), .int .u64 (x.2.toNat : Int)] 45)) w1.heap.size (.slice oa on_ oc) O := hO.below ((Below.refl _ _).alloc (zw0 _) _)
 have hB2 : Below w1.heap.size w1 (w.alloc (.cells #[.int .u64 (x.1.toNat : Int), .int .u64 (x.2.toNat : Int)] 45)) := q0Q hB _
 exact ⟨a, _, c, w', hr, ho, rfl, hB2.trans (hA.base_below hB2.size g)⟩
namespace Tr
theorem laid_step {x : Itm} {gone done : Bool} {y : Itm} {rest : List Itm} : laid x gone (y :: rest) done = (if done = false ∧ x.1.toNat ≤ y.1.toNat then [x] else []) ++ (if y.1 ≠ x.1 then [y] else []) ++ laid x gone rest (done || decide (x.1.toNat ≤ y.1.toNat)) := rfl
end Tr
theorem after_u (w : World) (P : Nat → Prop) (a : Option Addr) (n c : Nat) (l : List Itm) (hL : rItms.rd w P [.slice a n c] l) (hl : l.length ≤ 100000) (x : Itm) (gone : Bool) :
 Calls Tryz.prog 16 #[.slice a n c, .agg #[.int .u64 (x.1.toNat : Int), .int .u64 (x.2.toNat : Int)], .bool gone] w fun e w' => ∃ b m d, e = .returned (.slice b m d) ∧ OwnI 45 w' w.heap.size (.slice b m d) (Tr.after l x gone) ∧ Below w.heap.size w w' := by
 obtain ⟨w1, hw1, V1, b1, z1⟩ := q0q w 45 [.int .u64 (x.1.toNat : Int), .int .u64 (x.2.toNat : Int)]
 have HV1 : Hid _ := V1
 have HB1 : Hid _ := b1
 have HZ1 : Hid (w.heap.size < w1.heap.size) := V1.lt
 have HL : Hid (rItms.rd w1 P [.slice a n c] l) := Rep.below hL b1
 have HN : Hid (l.length = n) := (q0x hL).1
 have hn5 : n ≤ 100000 := by rw [← HN.out]; exact hl
 clear V1 b1 z1 hL hl
 go_enter Tryz.func16, Tryz.ntmps16
 go_wp2
 go_loopw [7, 8, 9] (fun o dn i wr => ∃ (k : Nat) (O : List Itm) (oa : Option Addr) (on_ oc : Nat) (done : Bool), i = .int .i64 (k : Int) ∧ k ≤ n ∧ o = .slice oa on_ oc ∧ dn = .bool done ∧ Hid (OwnI 45 wr w1.heap.size (.slice oa on_ oc) O) ∧ Hid (Below w1.heap.size w1 wr) ∧ Hid (O.length ≤ 2 * k) ∧ Hid (O ++ Tr.laid x gone (l.drop k) done = Tr.after l x gone)) (fun _ _ i _ => ((n : Int) - intOf i).toNat)
 case atStart => exact ⟨0, [], none, 0, 0, gone, rfl, Nat.zero_le _, rfl, rfl, OwnI.nil _ _ _, Below.refl _ _, zw0 _, rfl⟩
 case round =>
  obtain ⟨k, O, oa, on_, oc, done, rfl, hkn, rfl, rfl, HO, HB, HOl, HA⟩ := hrel
  by_cases hk : k < n
  · have hkI : (k : Int) < (n : Int) := by omega
    have hkb : decide ((k : Int) < (n : Int)) = true := decide_eq_true hkI
    have hk0 : (0 : Int) ≤ (k : Int) := Int.natCast_nonneg _
    have hkl : k < l.length := by rw [HN.out]; exact hk
    have hwk : IntKind.i64.wrap ((k : Int) + 1) = ((k + 1 : Nat) : Int) := by rw [IntKind.wrap_i64]; omega
    obtain ⟨gi, oi, rfl, -, hgi, hat⟩ := q0Z HL.out (by omega)
    obtain ⟨d0, d1⟩ := hat k hkl
    obtain ⟨y, hy⟩ : ∃ y, y = l[k] := ⟨_, rfl⟩
    rw [← hy] at d0 d1
    have HC : Hid (∀ {wx : World}, Below w1.heap.size w1 wx → (wx.cell? ⟨w.heap.size, 0, none⟩ = some (.int .u64 (x.1.toNat : Int)) ∧ wx.cell? ⟨w.heap.size, 1, none⟩ = some (.int .u64 (x.2.toNat : Int))) ∧ wx.cell? ⟨gi, oi + k * 2, none⟩ = some (.int .u64 (y.1.toNat : Int)) ∧ wx.cell? ⟨gi, oi + k * 2 + 1, none⟩ = some (.int .u64 (y.2.toNat : Int))) := fun b =>
     ⟨⟨(b.cell (p := ⟨w.heap.size, 0, none⟩) HZ1.out).trans (HV1.out.cell (j := 0) rfl), (b.cell (p := ⟨w.heap.size, 1, none⟩) HZ1.out).trans (HV1.out.cell (j := 1) rfl)⟩, (b.cell (p := ⟨gi, oi + k * 2, none⟩) hgi).trans d0, (b.cell (p := ⟨gi, oi + k * 2 + 1, none⟩) hgi).trans d1⟩
    have HD : Hid (O ++ ((if done = false ∧ x.1.toNat ≤ y.1.toNat then [x] else []) ++ (if y.1 ≠ x.1 then [y] else []) ++ Tr.laid x gone (l.drop (k + 1)) (done || decide (x.1.toNat ≤ y.1.toNat))) = Tr.after l x gone) := by
     have h := HA.out
     rw [List.drop_eq_getElem_cons hkl, ← hy, Tr.laid_step] at h
     exact h
    have HO5 : Hid (O.length ≤ 200000) := by have := HOl.out; unfold Hid; omega
    clear hat d0 d1 hy hgi HA
    cases done with
    | true =>
      by_cases hne : y.1 ≠ x.1
      · have HP : Hid ((O ++ [y]) ++ Tr.laid x gone (l.drop (k + 1)) true = Tr.after l x gone) := by
         have h := HD.out
         rw [if_neg (fun q => by cases q.1), if_pos hne, Bool.true_or] at h
         unfold Hid
         simpa using h
        clear HD
        have neI : ¬ ((y.1.toNat : Int) = (x.1.toNat : Int)) := fun q => hne (UInt64.toNat_inj.1 (by omega))
        have neB : ((y.1.toNat : Int) == (x.1.toNat : Int)) = false := beq_eq_false_iff_ne.2 neI
        clear hne
        go_wp2_with fail
        obtain ⟨⟨z0, z1⟩, z2, z3⟩ := HC.out HB.out.drew
        go_region
        clear z0 z1 z2 z3
        go_wp2_with fail
        obtain ⟨⟨z0, z1⟩, z2, z3⟩ := HC.out HB.out.drew.drew
        go_region
        clear z0 z1 z2 z3
        obtain ⟨a9, n9, c9, w9, hr9, ho9, hn9, b9⟩ := q8x (w := wr.drew.drew) (HO.out.keep1 (fun _ _ => rfl)) HB.out.drew.drew y (by have := HO5.out; omega)
        have HR9 : Hid _ := hr9
        have HO9 : Hid _ := ho9
        have HB9 : Hid _ := b9
        obtain ⟨-, y0, y1⟩ := HC.out (wx := wr.drew.drew) HB.out.drew.drew
        clear hr9 ho9 hn9 b9
        go_wp2_with (at_builtin; refine Lib.wpList_append_run _ rfl _ _ _ _ rfl _ _ rfl rfl _ _ HR9.out ?_)
        clear y0 y1
        go_roundw
        case rel => exact ⟨k + 1, O ++ [y], a9, n9, c9, true, by go_num, by omega, rfl, rfl, HO9, HB9, by have h := HOl.out; unfold Hid; first | omega | (simp only [zw2, List.length_cons, List.length_nil]; omega), HP⟩
        case measure => simp only [intOf]; omega
      · replace hne : y.1 = x.1 := Decidable.not_not.1 hne
        have HP : Hid ((O) ++ Tr.laid x gone (l.drop (k + 1)) true = Tr.after l x gone) := by
         have h := HD.out
         rw [if_neg (fun q => by cases q.1), if_neg (fun q => q hne), Bool.true_or] at h
         unfold Hid
         simpa using h
        clear HD
        have neI : (y.1.toNat : Int) = (x.1.toNat : Int) := by rw [hne]
        have neB : ((y.1.toNat : Int) == (x.1.toNat : Int)) = true := beq_iff_eq.2 neI
        clear hne
        go_wp2_with fail
        obtain ⟨⟨z0, z1⟩, z2, z3⟩ := HC.out HB.out.drew
        go_region
        clear z0 z1 z2 z3
        go_wp2_with fail
        obtain ⟨⟨z0, z1⟩, z2, z3⟩ := HC.out HB.out.drew.drew
        go_region
        clear z0 z1 z2 z3
        go_wp2
        go_roundw
        case rel => exact ⟨k + 1, O, oa, on_, oc, true, by go_num, by omega, rfl, rfl, (show Hid _ from HO.out.keep1 (fun _ _ => rfl)), (show Hid _ from HB.out.drew.drew), by have h := HOl.out; unfold Hid; first | omega | (simp only [zw2, List.length_cons, List.length_nil]; omega), HP⟩
        case measure => simp only [intOf]; omega
    | false =>
      by_cases hle : x.1.toNat ≤ y.1.toNat
      · by_cases hne : y.1 ≠ x.1
        · have HP : Hid ((O ++ [x] ++ [y]) ++ Tr.laid x gone (l.drop (k + 1)) true = Tr.after l x gone) := by
           have h := HD.out
           rw [if_pos ⟨rfl, hle⟩, if_pos hne, decide_eq_true hle, Bool.or_true] at h
           unfold Hid
           simpa using h
          clear HD
          have leI : (y.1.toNat : Int) ≥ (x.1.toNat : Int) := by omega
          have leB : decide ((y.1.toNat : Int) ≥ (x.1.toNat : Int)) = true := decide_eq_true leI
          have neI : ¬ ((y.1.toNat : Int) = (x.1.toNat : Int)) := fun q => hne (UInt64.toNat_inj.1 (by omega))
          have neB : ((y.1.toNat : Int) == (x.1.toNat : Int)) = false := beq_eq_false_iff_ne.2 neI
          clear hne hle
          go_wp2_with fail
          obtain ⟨⟨z0, z1⟩, z2, z3⟩ := HC.out HB.out.drew
          go_region
          clear z0 z1 z2 z3
          obtain ⟨a8, n8, c8, w8, hr8, ho8, hn8, b8⟩ := q8x (w := wr.drew) (HO.out.keep1 (fun _ _ => rfl)) HB.out.drew x (by have := HO5.out; omega)
          have HR8 : Hid _ := hr8
          have HO8 : Hid _ := ho8
          have HB8 : Hid _ := b8
          obtain ⟨⟨x0, x1⟩, -⟩ := HC.out (wx := wr.drew) HB.out.drew
          clear hr8 ho8 hn8 b8
          go_wp2_with (at_builtin; refine Lib.wpList_append_run _ rfl _ _ _ _ rfl _ _ rfl rfl _ _ HR8.out ?_)
          clear x0 x1
          obtain ⟨⟨z0, z1⟩, z2, z3⟩ := HC.out HB8.out.drew
          go_region
          clear z0 z1 z2 z3
          obtain ⟨a9, n9, c9, w9, hr9, ho9, hn9, b9⟩ := q8x (w := w8.drew) (HO8.out.keep1 (fun _ _ => rfl)) HB8.out.drew y (by have := HO5.out; simp only [zw2, List.length_cons, List.length_nil]; omega)
          have HR9 : Hid _ := hr9
          have HO9 : Hid _ := ho9
          have HB9 : Hid _ := b9
          obtain ⟨-, y0, y1⟩ := HC.out (wx := w8.drew) HB8.out.drew
          clear hr9 ho9 hn9 b9
          go_wp2_with (at_builtin; refine Lib.wpList_append_run _ rfl _ _ _ _ rfl _ _ rfl rfl _ _ HR9.out ?_)
          clear y0 y1
          go_roundw
          case rel => exact ⟨k + 1, O ++ [x] ++ [y], a9, n9, c9, true, by go_num, by omega, rfl, rfl, HO9, HB9, by have h := HOl.out; unfold Hid; first | omega | (simp only [zw2, List.length_cons, List.length_nil]; omega), HP⟩
          case measure => simp only [intOf]; omega
        · replace hne : y.1 = x.1 := Decidable.not_not.1 hne
          have HP : Hid ((O ++ [x]) ++ Tr.laid x gone (l.drop (k + 1)) true = Tr.after l x gone) := by
           have h := HD.out
           rw [if_pos ⟨rfl, hle⟩, if_neg (fun q => q hne), decide_eq_true hle, Bool.or_true] at h
           unfold Hid
           simpa using h
          clear HD
          have leI : (y.1.toNat : Int) ≥ (x.1.toNat : Int) := by omega
          have leB : decide ((y.1.toNat : Int) ≥ (x.1.toNat : Int)) = true := decide_eq_true leI
          have neI : (y.1.toNat : Int) = (x.1.toNat : Int) := by rw [hne]
          have neB : ((y.1.toNat : Int) == (x.1.toNat : Int)) = true := beq_iff_eq.2 neI
          clear hne hle
          go_wp2_with fail
          obtain ⟨⟨z0, z1⟩, z2, z3⟩ := HC.out HB.out.drew
          go_region
          clear z0 z1 z2 z3
          obtain ⟨a8, n8, c8, w8, hr8, ho8, hn8, b8⟩ := q8x (w := wr.drew) (HO.out.keep1 (fun _ _ => rfl)) HB.out.drew x (by have := HO5.out; omega)
          have HR8 : Hid _ := hr8
          have HO8 : Hid _ := ho8
          have HB8 : Hid _ := b8
          obtain ⟨⟨x0, x1⟩, -⟩ := HC.out (wx := wr.drew) HB.out.drew
          clear hr8 ho8 hn8 b8
          go_wp2_with (at_builtin; refine Lib.wpList_append_run _ rfl _ _ _ _ rfl _ _ rfl rfl _ _ HR8.out ?_)
          clear x0 x1
          obtain ⟨⟨z0, z1⟩, z2, z3⟩ := HC.out HB8.out.drew
          go_region
          clear z0 z1 z2 z3
          go_wp2
          go_roundw
          case rel => exact ⟨k + 1, O ++ [x], a8, n8, c8, true, by go_num, by omega, rfl, rfl, (show Hid _ from HO8.out.keep1 (fun _ _ => rfl)), (show Hid _ from HB8.out.drew), by have h := HOl.out; unfold Hid; first | omega | (simp only [zw2, List.length_cons, List.length_nil]; omega), HP⟩
          case measure => simp only [intOf]; omega
      · have hne : y.1 ≠ x.1 := fun q => hle (by rw [q]; exact zw0 _)
        have HP : Hid ((O ++ [y]) ++ Tr.laid x gone (l.drop (k + 1)) false = Tr.after l x gone) := by
         have h := HD.out
         rw [if_neg (fun q => hle q.2), if_pos hne, decide_eq_false hle, Bool.or_false] at h
         unfold Hid
         simpa using h
        clear HD
        have leI : ¬ ((y.1.toNat : Int) ≥ (x.1.toNat : Int)) := by omega
        have leB : decide ((y.1.toNat : Int) ≥ (x.1.toNat : Int)) = false := decide_eq_false leI
        have neI : ¬ ((y.1.toNat : Int) = (x.1.toNat : Int)) := fun q => hne (UInt64.toNat_inj.1 (by omega))
        have neB : ((y.1.toNat : Int) == (x.1.toNat : Int)) = false := beq_eq_false_iff_ne.2 neI
        clear hne hle
        go_wp2_with fail
        obtain ⟨⟨z0, z1⟩, z2, z3⟩ := HC.out HB.out.drew
        go_region
        clear z0 z1 z2 z3
        go_wp2_with fail
        obtain ⟨⟨z0, z1⟩, z2, z3⟩ := HC.out HB.out.drew.drew
        go_region
        clear z0 z1 z2 z3
        obtain ⟨a9, n9, c9, w9, hr9, ho9, hn9, b9⟩ := q8x (w := wr.drew.drew) (HO.out.keep1 (fun _ _ => rfl)) HB.out.drew.drew y (by have := HO5.out; omega)
        have HR9 : Hid _ := hr9
        have HO9 : Hid _ := ho9
        have HB9 : Hid _ := b9
        obtain ⟨-, y0, y1⟩ := HC.out (wx := wr.drew.drew) HB.out.drew.drew
        clear hr9 ho9 hn9 b9
        go_wp2_with (at_builtin; refine Lib.wpList_append_run _ rfl _ _ _ _ rfl _ _ rfl rfl _ _ HR9.out ?_)
        clear y0 y1
        go_roundw
        case rel => exact ⟨k + 1, O ++ [y], a9, n9, c9, false, by go_num, by omega, rfl, rfl, HO9, HB9, by have h := HOl.out; unfold Hid; first | omega | (simp only [zw2, List.length_cons, List.length_nil]; omega), HP⟩
        case measure => simp only [intOf]; omega
  · have hkI : ¬ ((k : Int) < (n : Int)) := by omega
    have hkb : decide ((k : Int) < (n : Int)) = false := decide_eq_false hkI
    have HE : Hid (O ++ Tr.laid x gone [] done = Tr.after l x gone) := by have h := HA.out; rw [List.drop_of_length_le (by rw [HN.out]; omega)] at h; exact h
    have HO5 : Hid (O.length ≤ 999999) := by have := HOl.out; unfold Hid; omega
    clear HA
    cases done with
    | true =>
      have HF : Hid (O = Tr.after l x gone) := by have h := HE.out; rw [show Tr.laid x gone [] true = [] from rfl, List.append_nil] at h; exact h
      go_wp2
      go_ret
      exact ⟨oa, on_, oc, rfl, by rw [← HF.out]; exact HO.out.mono HB1.out.size, HB1.out.trans (HB.out.mono HB1.out.size)⟩
    | false =>
      have HF : Hid (O ++ [x] = Tr.after l x gone) := HE.out
      obtain ⟨a9, n9, c9, w9, hr9, ho9, hn9, b9⟩ := q8x HO.out HB.out x HO5.out
      have HR9 : Hid _ := hr9
      have x0 := (HB.out.cell (p := ⟨w.heap.size, 0, none⟩) HZ1.out).trans (HV1.out.cell (j := 0) rfl)
      have x1 := (HB.out.cell (p := ⟨w.heap.size, 1, none⟩) HZ1.out).trans (HV1.out.cell (j := 1) rfl)
      have HO9 : Hid _ := ho9
      have HB9 : Hid _ := b9
      clear hr9 ho9 hn9 b9
      go_wp2_with (at_builtin; refine Lib.wpList_append_run _ rfl _ _ _ _ rfl _ _ rfl rfl _ _ HR9.out ?_)
      go_ret
      exact ⟨a9, n9, c9, rfl, by rw [← HF.out]; exact HO9.out.mono HB1.out.size, HB1.out.trans (HB9.out.mono HB1.out.size)⟩
namespace Tr
theorem up_eq : ∀ {l k : List Itm}, Up l → Up k → (∀ y, y ∈ l ↔ y ∈ k) → l = k
 | [], [], _, _, _ => rfl
 | [], b :: k, _, _, h => by have := (h b).2 List.mem_cons_self; cases this
 | a :: l, [], _, _, h => by have := (h a).1 List.mem_cons_self; cases this
 | a :: l, b :: k, hl, hk, h => by
   have pl := List.pairwise_cons.1 hl
   have pk := List.pairwise_cons.1 hk
   have hab : a = b := by
    rcases List.mem_cons.1 ((h a).1 List.mem_cons_self) with e | e
    · exact e
    · rcases List.mem_cons.1 ((h b).2 List.mem_cons_self) with e' | e'
      · exact e'.symm
      · have h1 := pk.1 a e
        have h2 := pl.1 b e'
        omega
   subst hab
   rw [up_eq (l := l) (k := k) pl.2 pk.2 (fun y => ⟨fun hy => by
    rcases List.mem_cons.1 ((h y).1 (List.mem_cons_of_mem _ hy)) with e | e
    · subst e; have := pl.1 _ hy; omega
    · exact e, fun hy => by
    rcases List.mem_cons.1 ((h y).2 (List.mem_cons_of_mem _ hy)) with e | e
    · subst e; have := pk.1 _ hy; omega
    · exact e⟩)]
theorem putT_mem {x y : Itm} {l : List Itm} : y ∈ putT x l ↔ y = x ∨ (y ∈ l ∧ y.1 ≠ x.1) := by
 have hne : y.1 ≠ x.1 ↔ y.1.toNat < x.1.toNat ∨ x.1.toNat < y.1.toNat := by
  constructor
  · intro h
    have : y.1.toNat ≠ x.1.toNat := fun e => h (UInt64.toNat.inj e)
    omega
  · rintro h e
    rw [e] at h
    omega
 unfold putT
 rw [hne]
 simp only [List.mem_append, List.mem_filter, List.mem_singleton, decide_eq_true_eq]
 constructor
 · rintro ((⟨h1, h2⟩ | h) | ⟨h1, h2⟩)
   · exact .inr ⟨h1, .inl h2⟩
   · exact .inl h
   · exact .inr ⟨h1, .inr h2⟩
 · rintro (h | ⟨h1, h2 | h2⟩)
   · exact .inl (.inr h)
   · exact .inl (.inl ⟨h1, h2⟩)
   · exact .inr ⟨h1, h2⟩
theorem delT_mem {k : UInt64} {y : Itm} {l : List Itm} : y ∈ delT k l ↔ y ∈ l ∧ y.1 ≠ k := by
 unfold delT
 simp only [List.mem_filter, decide_eq_true_eq]
theorem turn_two {x y : Itm} (hxy : x.1 ≠ y.1) {l : List Itm} (h : Up l) : putT y (putT x l) = putT x (putT y l) := by
 refine up_eq ((qAj y).up _ ((qAj x).up _ h)) ((qAj x).up _ ((qAj y).up _ h)) fun z => ?_
 simp only [putT_mem]
 constructor
 · rintro (rfl | ⟨rfl | ⟨h1, h2⟩, h3⟩)
   · exact .inr ⟨.inl rfl, fun e => hxy e.symm⟩
   · exact .inl rfl
   · exact .inr ⟨.inr ⟨h1, h3⟩, h2⟩
 · rintro (rfl | ⟨rfl | ⟨h1, h2⟩, h3⟩)
   · exact .inr ⟨.inl rfl, hxy⟩
   · exact .inl rfl
   · exact .inr ⟨.inr ⟨h1, h3⟩, h2⟩
theorem turn_gone {y : Itm} {l : List Itm} (h : Up l) : delT y.1 (putT y l) = after l y true := by
 rw [after_gone]
 refine up_eq ((acts_del y.1).up _ ((qAj y).up _ h)) (List.Pairwise.sublist List.filter_sublist h) fun z => ?_
 rw [delT_mem, putT_mem]
 simp only [List.mem_filter, decide_eq_true_eq]
 constructor
 · rintro ⟨rfl | ⟨h1, h2⟩, h3⟩
   · exact absurd rfl h3
   · exact ⟨h1, h3⟩
 · rintro ⟨h1, h2⟩
   exact ⟨.inr ⟨h1, h2⟩, h2⟩
end Tr
namespace Tr
theorem qXq {x : Itm} {s : Pgs} {root : Int} (h : readE s root = 0) : (putE x s root = 51 ∧ 2048 < s.length + 26 ∧ putS x s root = [] ∧ putQ x s root = 0) ∨ (putE x s root = 0 ∧ qTx (putT x) s root (putS x s root) (putQ x s root)) := by
 rcases put_cases x s root with ⟨h1, -⟩ | ⟨-, h2⟩ | ⟨-, h2⟩
 · exact absurd h h1
 · exact .inl h2
 · exact .inr h2
theorem read_nil : readE [] 0 = 0 := rfl
theorem after_few (s : Pgs) (root : Int) (x : Itm) : (after (readI s root) x false).length ≤ (readI s root).length + 1 := by rw [after_put qMj x]; exact putT_few x _
structure Two (s : Pgs) (root : Int) (x y : Itm) (S1 : Pgs) (Q1 : Int) : Prop where
 b : putE y S1 Q1 = 0 ∨ putE y S1 Q1 = 51
 c : putE y s root = 0 ∨ putE y s root = 51
 d : putE x (putS y s root) (putQ y s root) = 0 ∨ putE x (putS y s root) (putQ y s root) = 51
 k : (delA (putS y S1 Q1) (putQ y S1 Q1) y.1).2.2.2 = 0 ∨ (delA (putS y S1 Q1) (putQ y S1 Q1) y.1).2.2.2 = 51
 no : putE y S1 Q1 ≠ 0 ∨ putE y s root ≠ 0 ∨ putE x (putS y s root) (putQ y s root) ≠ 0 ∨ (delA (putS y S1 Q1) (putQ y S1 Q1) y.1).2.2.2 ≠ 0 → 1900 < s.length
 yes : putE y S1 Q1 = 0 → putE y s root = 0 → putE x (putS y s root) (putQ y s root) = 0 → (delA (putS y S1 Q1) (putQ y S1 Q1) y.1).2.2.2 = 0 →
  readE (putS y S1 Q1) (putQ y S1 Q1) = 0 ∧ readE (putS x (putS y s root) (putQ y s root)) (putQ x (putS y s root) (putQ y s root)) = 0 ∧ readE (delA (putS y S1 Q1) (putQ y S1 Q1) y.1).1 (delA (putS y S1 Q1) (putQ y S1 Q1) y.1).2.1 = 0 ∧
  (delA (putS y S1 Q1) (putQ y S1 Q1) y.1).2.2.1 = true ∧ readI (putS y S1 Q1) (putQ y S1 Q1) = readI (putS x (putS y s root) (putQ y s root)) (putQ x (putS y s root) (putQ y s root)) ∧
  readI (delA (putS y S1 Q1) (putQ y S1 Q1) y.1).1 (delA (putS y S1 Q1) (putQ y S1 Q1) y.1).2.1 = after (after (readI s root) x false) y true
 p : 0 ≤ (delA (putS y S1 Q1) (putQ y S1 Q1) y.1).2.1 ∧ (delA (putS y S1 Q1) (putQ y S1 Q1) y.1).2.1 ≤ 2048
theorem two_of {s : Pgs} {root : Int} {x y : Itm} (hxy : x.1 ≠ y.1) {S1 : Pgs} {Q1 : Int} (h0 : readE s root = 0) (hA : qTx (putT x) s root S1 Q1) : Two s root x y S1 Q1 := by
 have hl := hA.len
 have hb := qXq (x := y) hA.ok_
 have hc := qXq (x := y) h0
 -- the tree that the first of the other order leaves
 have rc : readE (putS y s root) (putQ y s root) = 0 := by
  rcases hc with ⟨-, -, h1, h2⟩ | ⟨-, h1⟩
  · rw [h1, h2]; exact read_nil
  · exact h1.ok_
 have lc : (putS y s root).length ≤ s.length + 26 := by
  rcases hc with ⟨-, -, h1, h2⟩ | ⟨-, h1⟩
  · rw [h1]; exact Nat.zero_le _
  · exact h1.len
 have rb : readE (putS y S1 Q1) (putQ y S1 Q1) = 0 := by
  rcases hb with ⟨-, -, h1, h2⟩ | ⟨-, h1⟩
  · rw [h1, h2]; exact read_nil
  · exact h1.ok_
 have lb : (putS y S1 Q1).length ≤ s.length + 52 := by
  rcases hb with ⟨-, -, h1, h2⟩ | ⟨-, h1⟩
  · rw [h1]; exact Nat.zero_le _
  · have := h1.len; omega
 have hd := qXq (x := x) rc
 have hk := del_cases (putS y S1 Q1) (putQ y S1 Q1) y.1
 refine ⟨?_, ?_, ?_, ?_, ?_, ?_, ?_⟩
 · rcases hb with ⟨h, -⟩ | ⟨h, -⟩
   · exact .inr h
   · exact .inl h
 · rcases hc with ⟨h, -⟩ | ⟨h, -⟩
   · exact .inr h
   · exact .inl h
 · rcases hd with ⟨h, -⟩ | ⟨h, -⟩
   · exact .inr h
   · exact .inl h
 · rcases hk with ⟨h, -⟩ | ⟨-, h, -⟩ | ⟨-, h, -⟩ | ⟨s', q, -, h, -⟩
   · exact absurd rb h
   · rw [h]; exact .inr rfl
   · rw [h]; exact .inl rfl
   · rw [h]; exact .inl rfl
 · rintro (h | h | h | h)
   · rcases hb with ⟨-, h1, -⟩ | ⟨h1, -⟩
     · omega
     · exact absurd h1 h
   · rcases hc with ⟨-, h1, -⟩ | ⟨h1, -⟩
     · omega
     · exact absurd h1 h
   · rcases hd with ⟨-, h1, -⟩ | ⟨h1, -⟩
     · omega
     · exact absurd h1 h
   · rcases hk with ⟨h1, -⟩ | ⟨-, -, h1⟩ | ⟨-, h1, -⟩ | ⟨s', q, -, h1, -⟩
     · exact absurd rb h1
     · omega
     · rw [h1] at h; exact absurd rfl h
     · rw [h1] at h; exact absurd rfl h
 · intro e1 e2 e3 e4
   have ab : qTx (putT y) S1 Q1 (putS y S1 Q1) (putQ y S1 Q1) := by
    rcases hb with ⟨h, -⟩ | ⟨-, h⟩
    · rw [h] at e1; cases e1
    · exact h
   have ac : qTx (putT y) s root (putS y s root) (putQ y s root) := by
    rcases hc with ⟨h, -⟩ | ⟨-, h⟩
    · rw [h] at e2; cases e2
    · exact h
   have ad : qTx (putT x) (putS y s root) (putQ y s root) (putS x (putS y s root) (putQ y s root)) (putQ x (putS y s root) (putQ y s root)) := by
    rcases hd with ⟨h, -⟩ | ⟨-, h⟩
    · rw [h] at e3; cases e3
    · exact h
   have hin : (⟨y.1, y.2⟩ : Itm) ∈ readI (putS y S1 Q1) (putQ y S1 Q1) := by rw [ab.items]; exact putT_mem.2 (.inl rfl)
   have hup : Up (readI s root) := qMj
   have hup1 : Up (readI S1 Q1) := qMj
   refine ⟨rb, ad.ok_, ?_⟩
   rcases hk with ⟨h1, -⟩ | ⟨-, h1, -⟩ | ⟨-, h1, h2⟩ | ⟨s', q, -, h1, -, h2⟩
   · exact absurd rb h1
   · rw [h1] at e4; cases e4
   · exact absurd rfl (h2 _ hin)
   · rw [h1]
     refine ⟨h2.ok_, rfl, ?_, ?_⟩
     · rw [ab.items, hA.items, ad.items, ac.items]
       exact turn_two hxy hup
     · show readI s' q = _
       rw [h2.items, ab.items, turn_gone hup1, hA.items, after_put hup x]
       rfl
 · rcases hk with ⟨-, h1⟩ | ⟨-, h1, -⟩ | ⟨-, h1, -⟩ | ⟨s', q, -, h1, -, h2⟩
   · rw [h1]; exact ⟨by show (0 : Int) ≤ 0; decide, by show (0 : Int) ≤ 2048; decide⟩
   · rw [h1]; exact ⟨by show (0 : Int) ≤ 0; decide, by show (0 : Int) ≤ 2048; decide⟩
   · rw [h1]; exact putQ_in y S1 Q1
   · rw [h1]
     have := root_in h2.ok_
     exact ⟨by show 0 ≤ q; omega, by show q ≤ 2048; omega⟩
end Tr
end Go.Proofs.YtkbmadoaomoojaaGreat
