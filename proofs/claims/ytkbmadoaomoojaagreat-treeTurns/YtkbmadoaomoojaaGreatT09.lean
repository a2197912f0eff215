/-
  Facts that the proof rests on, part 10. Conditions: those that each of them names.
-/
import Derived.Deep.RegionWith
import Derived.Lib.AppendZerosOnto
import Derived.Test.YtkbmadoaomoojaaGreatT00
import Derived.Test.YtkbmadoaomoojaaGreatT02
import Derived.Test.YtkbmadoaomoojaaGreatT05
import Derived.Test.YtkbmadoaomoojaaGreatT06
import Derived.Test.YtkbmadoaomoojaaGreatT08
namespace Go.Proofs.YtkbmadoaomoojaaGreat
set_option maxHeartbeats 16000000
set_option maxRecDepth 20000
open Go.RowKit
set_option linter.unusedVariables false
theorem q5J {z : Value} (hz : z.cells = #[z]) (n : Nat) : Builtin.zeroCells z.cells n = (List.replicate n z).toArray := by
 apply Array.toList_inj.1
 rw [hz]
 simp [Builtin.zeroCells]
 apply List.ext_getElem
 · simp
 · intro i h1 h2
   simp [Nat.mod_one]
theorem qCZ {P : Program} (w : World) (base : Nat) (t tn ty e : TypeId) (i : TypeInfo) (z : Value) (kq kn : IntKind) (bytes : Nat) (ht : P.underlying t = some (.slice e)) (htn : P.underlying tn = some (.int kn)) (hi : P.info? e = some i) (hz : i.zero = some z)
 (hsize : i.size = 1) (hby : i.bytes = bytes) (hzc : z.cells = #[z]) (h1 : z.oneCell' = true)
 (v : Value) (n : Nat) (xs : List Value) (hown : w.ownsRow base e 1 v n xs) (k : Nat) (h0 : 0 < k) (h63 : n + k ≤ maxLen) (hbytes : (n + k) * bytes ≤ 140737488355328) (hbase : base ≤ w.heap.size) :
 ∃ b d w', (Builtin.append_ #[t, tn] ty #[v, .int kq k]).run P w = .ok (.slice b (n + k) d) w' ∧ w'.ownsRow base e 1 (.slice b (n + k) d) (n + k) (xs ++ List.replicate k z) ∧ w.grownBy w' v.ownBlock := by
 subst hby
 have hsmall : n + k ≤ 9223372036854775807 := by simp only [maxLen] at h63; omega
 have hlen : (xs ++ List.replicate k z).length = (n + k) * 1 := by rw [zw2, hown.1, List.length_replicate]; omega
 have hkb : k * i.bytes ≤ 281474976710656 := by rw [Nat.add_mul] at hbytes; omega
 have grown : ∀ (old : Nat), ∀ (row : Option Nat),
  (w.drew.alloc (.cells (xs.toArray ++ Builtin.zeroCells z.cells k ++ Builtin.zeroCells z.cells (grownCap w (n + k) old e - (n + k))) e)).ownsRow base e 1
   (.slice (some ⟨w.heap.size, 0, none⟩) (n + k) (grownCap w (n + k) old e)) (n + k) (xs ++ List.replicate k z) ∧
  w.grownBy (w.drew.alloc (.cells (xs.toArray ++ Builtin.zeroCells z.cells k ++ Builtin.zeroCells z.cells (grownCap w (n + k) old e - (n + k))) e)) row := by
  intro old row
  have hge := grownCap_ge w (n + k) old e
  have hcm : grownCap w (n + k) old e ≤ maxLen := grownCap_le_maxLen w (n + k) old e h63
  refine ⟨⟨hlen, .inr ⟨w.heap.size, _, _, rfl, hbase, heap_alloc_new w.drew _, hge, hcm, ?_, ?_⟩⟩, ⟨rfl, rfl, rfl, by simp, fun q hq _ => by rw [heap_alloc_old w.drew _ (by exact hq)]; rfl⟩⟩
  · rw [q5J hzc, q5J hzc]
    simp only [Array.size_append, List.size_toArray, List.length_replicate, hown.1]
    omega
  · rw [q5J hzc, q5J hzc]
    simp only [Array.toList_append, List.append_assoc]
    rw [← List.append_assoc, ← hlen]
    exact List.take_left
 rcases hown.2 with ⟨rfl, rfl⟩ | ⟨g, cap, cur, rfl, hbg, hg, hnc, hcm, hcs, htake⟩
 · have hx : xs = [] := List.eq_nil_of_length_eq_zero (by simpa using hown.1)
   subst hx
   have hr := Lib.run_append_nil_zeros (P := P) w t tn ty e i z kq kn ht htn hi hz k h0 (by omega) (by omega) hkb
   have hgr := grown 0 (Value.ownBlock (.slice none 0 0))
   simp only [Nat.zero_add, List.nil_append, Array.empty_append] at hgr ⊢
   exact ⟨_, _, _, hr, hgr.1, hgr.2⟩
 · by_cases hroom : n + k ≤ cap
   · have hfit : n + k ≤ cur.size := by rw [hcs]; omega
     have hst := run_storeCells_at P g n e (List.replicate k z) 0 cur w hg (by simpa using hfit) (by intro v hv'; rw [List.eq_of_mem_replicate hv']; exact h1)
     simp only [Nat.add_zero] at hst
     have hr : (Builtin.append_ #[t, tn] ty #[.slice (some ⟨g, 0, none⟩) n cap, .int kq k]).run P w = .ok (.slice (some ⟨g, 0, none⟩) (n + k) cap) (w.setRow g (cur.toList.take n ++ List.replicate k z ++ cur.toList.drop (n + (List.replicate k z).length)).toArray) := by
      have hk : k ≠ 0 := by omega
      have hw : IntKind.i64.wrap (k : Int) = k := by rw [IntKind.wrap_i64]; omega
      have h48i : ¬ (281474976710656 < (k : Int) * (i.bytes : Int)) := by
       rw [← Int.natCast_mul]
       omega
      have hneg : ¬ ((k : Int) < 0) := by omega
      have hns : ¬ (k * i.size = 0) := Nat.mul_ne_zero hk (by omega)
      simp [Builtin.append_, run_underlying ht, run_underlying htn, sizeOf, typeInfo, zeroValue, hi, hz, asInt, asIntOf, hw, hneg, hk, hroom, h48i, hsize, q5J hzc, Addr.add_lit]
      rw [hst]
      simp
     refine ⟨_, _, _, hr, ⟨hlen, .inr ⟨g, cap, _, rfl, hbg, setRow_heap w g cur _ e _ hg, hroom, hcm, ?_, ?_⟩⟩, ⟨rfl, rfl, rfl, by simp, fun q _ hq => setRow_other w g q _ (fun e => hq (by simp [Value.ownBlock, e]))⟩⟩
     · simp only [List.size_toArray, zw2, zw4, List.length_drop, Array.length_toList, List.length_replicate]
       omega
     · have ht2 : cur.toList.take n = xs := by simpa using htake
       rw [ht2, ← hlen]
       exact List.take_left
   · have holds : ∀ j u, xs[j]? = some u → w.cell? ((⟨g, 0, none⟩ : Addr).add j) = some u := hown.cells (g := g) rfl
     have hf := run_firstCells_some (P := P) w.drew i.size n ⟨g, 0, none⟩ n cap xs (by rw [hown.1, hsize]) holds
     have hr := Lib.run_append_grow_zeros (P := P) w t tn ty e i z kq kn ht htn hi hz (some ⟨g, 0, none⟩) n cap xs hf k h0 (by omega) (by omega) (by omega) hkb (growslice_fits (by omega) hbytes)
     have hgr := grown cap (Value.ownBlock (.slice (some ⟨g, 0, none⟩) n cap))
     exact ⟨_, _, _, hr, hgr.1, hgr.2⟩
theorem qEX (N s : Nat) (M S : Int) (hM : M = (N : Int)) (hS : S = (s : Int)) (w : World) (h1 : 1 ≤ s) (h2 : s ≤ 8) (h : N < 256 ^ s) (hN : N < 18446744073709551616) :
 Calls Tryz.prog 121 #[.int .u64 M, .int .i64 S] w fun e w' => ∃ a c, e = .returned (.tuple #[.slice a s c, .int .i64 0]) ∧ IsB w' a s (Oct.octs N s) ∧ (a = none → c = 0) ∧ Below w.heap.size w w' := by
 subst hM
 subst hS
 refine (refPut_in N s w h1 h2 hN).mono ?_
 rintro e w' ⟨a, len, c, rfl, ho, b⟩
 rw [Oct.putE_ok h1 h2 h]
 rw [Oct.putL_ok h1 h2 h] at ho
 obtain rfl : len = s := (q9J ho).trans (Oct.octs_length _ _)
 obtain ⟨k1, k2, k3⟩ := q4x ho
 exact ⟨a, c, rfl, k1, k3, b⟩
theorem Row.owns {w : World} {g base n : Nat} {t : TypeId} {xs : List Value} (h : Row w g t xs) (hn : xs.length = n) (hb : base ≤ g) (hm : n ≤ maxLen) : w.ownsRow base t 1 (.slice (some ⟨g, 0, none⟩) n n) n xs :=
 ⟨by rw [hn, Nat.mul_one], .inr ⟨g, n, xs.toArray, rfl, hb, h.eq, zw0 _, hm, by simpa using hn, by simp [← hn]⟩⟩
theorem qVj {l : List Itm} {ks : List Int} {n : Nat} (hn : l.length = n) (h3 : n ≤ 3) (q : UInt8) (hq : Lf.kind (l, ks) = q) : [.int .u8 (q.toNat : Int), .int .u8 (n : Int), .int .u8 0, .int .u8 0] = cellsOf (Lf.head (l, ks)) := by
 subst hn
 unfold Lf.head cellsOf
 rw [hq]
 have e : (UInt8.ofNat l.length).toNat = l.length := by rw [UInt8.toNat_ofNat']; omega
 simp [e]
theorem enc_of {n : Nod} {D : List UInt8} {m q : Nat} (hD : Lf.front n = D) (hm : D.length = m) (hq : q = 60 - m) : Crc.sealed (D ++ List.replicate q 0) = Lf.enc n := by
 subst hD hm hq
 rfl
theorem qEZ (x : UInt64) : x.toNat < 256 ^ 8 ∧ x.toNat < 18446744073709551616 := by
 have := x.toNat_lt
 exact ⟨by simpa using this, by simpa using this⟩
set_option maxRecDepth 20000 in
theorem refEncode_ok (w : World) (P P' : Nat → Prop) (a a' : Option Addr) (n c n' c' : Nat) (l : List Itm) (ks : List Int) (hL : rItms.rd w P [.slice a n c] l) (hK : rKids.rd w P' [.slice a' n' c'] ks) (hok : Lf.ok (l, ks) = true) :
 Calls Tryz.prog 99 #[.agg #[.slice a n c, .slice a' n' c']] w fun e w' => ∃ b d, e = .returned (.tuple #[.slice b 64 d, .int .i64 0]) ∧ w'.ownsRow w.heap.size 5 1 (.slice b 64 d) 64 (cellsOf (Lf.enc (l, ks))) ∧ Below w.heap.size w w' := by
 have HOK : Hid _ := Lf.ok_iff.1 hok
 have HE0 : Hid (Lf.encodeE (l, ks) = 0) := if_pos hok
 have HR : Hid _ := hL
 have HK : Hid _ := hK
 have HN : Hid (l.length = n) := (q0x hL).1
 have HN' : Hid (ks.length = n') := (q0x hK).1
 have hn1 : 1 ≤ n := by have := HOK.out.some_; have e := HN.out; simp only at this; omega
 have hn3 : n ≤ 3 := by have := HOK.out.few; have e := HN.out; simp only at this; omega
 obtain ⟨w0, hw0, V0, b0, z0⟩ := q0q w 139 [.slice a n c, .slice a' n' c']
 have HV0 : Hid _ := V0
 have B0 : Hid _ := b0
 clear hL hK V0 b0 z0 hok
 go_enter Tryz.func99, Tryz.ntmps99
 obtain ⟨r0, r1⟩ := HV0.out.two
 go_wp2_with fail
 refine (qTX _ P P' a a' n c n' c' l ks (Rep.below HR.out B0.out) (Rep.below HK.out B0.out)).mono ?_
 rintro e w1 ⟨rfl, b1⟩
 rw [HE0.out]
 have HV1 : Hid _ := HV0.out.below b1
 have B1 : Hid _ := on B0.out b1
 clear r0 r1 b1
 obtain ⟨r0, r1⟩ := HV1.out.two
 by_cases hl : n' = 0
 · have hz1 : ¬ (n' : Int) > 0 := by omega
   have hz0 : ((n' : Int) == 0) = true := beq_iff_eq.2 (by omega)
   have hzd : decide (0 < n') = false := decide_eq_false (by omega)
   have HLf : Hid (Lf.isLeaf (l, ks) = true) := Lf.leaf_iff.2 (by rw [HN'.out]; exact hl)
   clear hl
   obtain ⟨w2, hw2, V2, b2, z2⟩ := q0q w1 5 [.int .u8 1, .int .u8 (n : Int), .int .u8 0, .int .u8 0]
   have B2 : Hid _ := b2
   have HO2 : Hid (w2.ownsRow w1.heap.size 5 1 (.slice (some ⟨w1.heap.size, 0, none⟩) 4 4) 4 (cellsOf (Lf.head (l, ks)))) := by
    rw [← qVj HN.out hn3 1 (show Lf.kind (l, ks) = 1 by unfold Lf.kind; rw [HLf.out]; rfl)]
    exact V2.owns rfl (zw0 _) (by decide)
   clear r0 r1
   obtain ⟨r2, r3⟩ := (HV1.out.below b2).two
   obtain ⟨r0, r1⟩ := HV1.out.two
   clear V2 b2 z2
   go_wp2
   clear r0 r1 r2 r3
   go_loopw [4, 5] (fun b i wr => ∃ (k m : Nat) (x : Option Addr) (d : Nat), k ≤ n ∧ i = .int .i64 k ∧ b = .slice x m d ∧ m ≤ 28 ∧ Hid (m = 4 + 8 * k) ∧ Hid (wr.ownsRow w1.heap.size 5 1 (.slice x m d) m (cellsOf (Lf.head (l, ks) ++ (l.take k).flatMap Lf.key8))) ∧ Below w1.heap.size w1 wr) (fun _ i _ => n - (intOf i).toNat)
   case atStart => exact ⟨0, 4, _, 4, Nat.zero_le _, rfl, rfl, by omega, rfl, by rw [List.take_zero, List.flatMap_nil, List.append_nil]; exact HO2.out, B2.out⟩
   case round =>
    obtain ⟨k, m, x, d, hk, rfl, rfl, hm, HM, HO, bel⟩ := hrel
    have BW : Hid _ := on B1.out bel
    obtain ⟨r0, r1⟩ := (HV1.out.below bel).two
    by_cases hlt : k < n
    · have hkl : k < l.length := by rw [HN.out]; exact hlt
      obtain ⟨g, off, rfl, -, -, hat⟩ := q0Z (Rep.below HR.out BW.out) (by omega)
      obtain ⟨c0, c1⟩ := hat k hkl
      have HB1 : Hid _ := bel
      have hkz : (k : Int) < (n : Int) := by omega
      clear hat bel
      go_wp2_with fail
      refine (qEX l[k].1.toNat 8 _ _ rfl rfl _ (by decide) (by decide) (qEZ _).1 (qEZ _).2).mono ?_
      rintro e w3 ⟨xa, xc, rfl, hB, hnil, b3⟩
      have HB : Hid (IsB _ _ _ _) := hB
      have HNil : Hid _ := hnil
      have HO3 : Hid (w3.ownsRow w1.heap.size 5 1 (.slice x m d) m (cellsOf (Lf.head (l, ks) ++ (l.take k).flatMap Lf.key8))) := qFj HO.out b3
      have HB3 : Hid _ := on HB1.out b3
      clear hB hnil b3 r0 r1 c0
      go_wp2_with (at_builtin; refine q5Z rfl _ _ rfl w1.heap.size _ m _ rfl HO3.out _ 8 _ _ rfl HB.out HNil.out (by omega) HB3.out.size ?_)
      intro b4 d4 w4 ho4 hg4
      have HB4 : Hid (Below w1.heap.size w1 w4) := HB3.out.grown hg4 HB3.out.size (q6q HO3.out)
      have HO4 : Hid (w4.ownsRow w1.heap.size 5 1 (.slice b4 (m + 8) d4) (m + 8) (cellsOf (Lf.head (l, ks) ++ (l.take (k + 1)).flatMap Lf.key8))) := by
       rw [Lf.flat_next _ hkl]
       unfold Hid
       try simp only [List.append_assoc]
       exact ho4
      have HM4 : Hid (m + 8 = 4 + 8 * (k + 1)) := by have := HM.out; unfold Hid; omega
      have hm4 : m + 8 ≤ 28 := by have := HM4.out; omega
      clear ho4 hg4 HO3 HB3 HB HNil
      go_wp2
      go_roundw
      case rel => exact ⟨k + 1, m + 8, b4, d4, by omega, by go_num, rfl, hm4, HM4, HO4, HB4.out⟩
      case measure => simp [intOf]; omega
    · obtain rfl : n = k := by omega
      rw [List.take_of_length_le (by rw [HN.out]; exact zw0 _)] at HO
      go_wp2
      go_loopw [4, 8] (fun b i wr => ∃ (k m : Nat) (x : Option Addr) (d : Nat), k ≤ n ∧ i = .int .i64 k ∧ b = .slice x m d ∧ m ≤ 52 ∧ Hid (m = 4 + 8 * n + 8 * k) ∧ Hid (wr.ownsRow w1.heap.size 5 1 (.slice x m d) m (cellsOf (Lf.head (l, ks) ++ l.flatMap Lf.key8 ++ (l.take k).flatMap Lf.val8))) ∧ Below w1.heap.size w1 wr) (fun _ i _ => n - (intOf i).toNat)
      case atStart => exact ⟨0, m, x, d, Nat.zero_le _, rfl, rfl, by omega, HM, by rw [List.take_zero, List.flatMap_nil, List.append_nil]; exact HO, bel⟩
      case round =>
       obtain ⟨k, m, x, d, hk, rfl, rfl, hm, HM, HO, bel⟩ := hrel
       have BW : Hid _ := on B1.out bel
       obtain ⟨r0, r1⟩ := (HV1.out.below bel).two
       by_cases hlt : k < n
       · have hkl : k < l.length := by rw [HN.out]; exact hlt
         obtain ⟨g, off, rfl, -, -, hat⟩ := q0Z (Rep.below HR.out BW.out) (by omega)
         obtain ⟨c0, c1⟩ := hat k hkl
         have HB1 : Hid _ := bel
         have hkz : (k : Int) < (n : Int) := by omega
         clear hat bel
         go_wp2_with fail
         refine (qEX l[k].2.toNat 8 _ _ rfl rfl _ (by decide) (by decide) (qEZ _).1 (qEZ _).2).mono ?_
         rintro e w3 ⟨xa, xc, rfl, hB, hnil, b3⟩
         have HB : Hid (IsB _ _ _ _) := hB
         have HNil : Hid _ := hnil
         have HO3 : Hid (w3.ownsRow w1.heap.size 5 1 (.slice x m d) m (cellsOf (Lf.head (l, ks) ++ l.flatMap Lf.key8 ++ (l.take k).flatMap Lf.val8))) := qFj HO.out b3
         have HB3 : Hid _ := on HB1.out b3
         clear hB hnil b3 r0 r1 c0
         go_wp2_with (at_builtin; refine q5Z rfl _ _ rfl w1.heap.size _ m _ rfl HO3.out _ 8 _ _ rfl HB.out HNil.out (by omega) HB3.out.size ?_)
         intro b4 d4 w4 ho4 hg4
         have HB4 : Hid (Below w1.heap.size w1 w4) := HB3.out.grown hg4 HB3.out.size (q6q HO3.out)
         have HO4 : Hid (w4.ownsRow w1.heap.size 5 1 (.slice b4 (m + 8) d4) (m + 8) (cellsOf (Lf.head (l, ks) ++ l.flatMap Lf.key8 ++ (l.take (k + 1)).flatMap Lf.val8))) := by
          rw [Lf.flat_next _ hkl]
          unfold Hid
          try simp only [List.append_assoc]
          exact ho4
         have HM4 : Hid (m + 8 = 4 + 8 * n + 8 * (k + 1)) := by have := HM.out; unfold Hid; omega
         have hm4 : m + 8 ≤ 52 := by have := HM4.out; omega
         clear ho4 hg4 HO3 HB3 HB HNil
         go_wp2
         go_roundw
         case rel => exact ⟨k + 1, m + 8, b4, d4, by omega, by go_num, rfl, hm4, HM4, HO4, HB4.out⟩
         case measure => simp [intOf]; omega
       · obtain rfl : n = k := by omega
         rw [List.take_of_length_le (by rw [HN.out]; exact zw0 _)] at HO
         clear r0 r1
         obtain ⟨r0, r1⟩ := (HV1.out.below bel).two
         go_wp2
         obtain ⟨wq, hwq⟩ : ∃ wq, wq = wr := ⟨_, rfl⟩
         subst hwq
         go_loopw [4, 11] (fun b i wr => i = .int .i64 0 ∧ b = .slice x m d ∧ wr = wq) (fun _ i _ => 0)
         case atStart => exact ⟨rfl, rfl, rfl⟩
         case round =>
          obtain ⟨rfl, rfl, rfl⟩ := hrel
          have hfin : True := trivial
          have hzz : ¬ (0 : Int) < (n' : Int) := by omega
          obtain ⟨q, hq⟩ : ∃ q, q = 60 - m := ⟨_, rfl⟩
          have hq0 : 0 < q := by omega
          have hqz : (60 : Int) - (m : Int) = (q : Int) := by omega
          have HQ : Hid _ := hq
          have hqm : m + q ≤ 64 := by omega
          have HQ60 : Hid (m + q = 60) := by unfold Hid; omega
          clear hq
          obtain ⟨i0, hi, hz0, hz1', hz2⟩ := info_parts qAZ
          obtain ⟨b5, d5, w5, hr5, ho5, bg5⟩ := qCZ (P := Tryz.prog) wr w1.heap.size 53 3 53 5 i0 (.int .u8 0) .i64 .i64 1 Tryz.underlying53 Tryz.underlying3 hi hz0 hz1' hz2 rfl rfl _ m _ HO.out q hq0 (by unfold maxLen; omega) (by omega) bel.size
          have HR5 : Hid _ := hr5
          have BW5 : Hid (Below w1.heap.size w1 w5) := bel.grown bg5 bel.size (fun k hk => q6q HO.out k hk)
          have HO5 : Hid (w5.ownsRow w1.heap.size 5 1 (.slice b5 (m + q) d5) (m + q) (cellsOf ((Lf.head (l, ks) ++ l.flatMap Lf.key8 ++ l.flatMap Lf.val8) ++ List.replicate q 0))) := by
           rw [q3X, show cellsOf (List.replicate q 0) = List.replicate q (.int .u8 0) by simp [cellsOf]]
           exact ho5
          clear i0 hi hz0 hz1' hz2 hr5 ho5 bg5
          go_wp2_with (at_builtin; refine Lib.wpList_append_run _ rfl _ _ _ _ rfl _ _ rfl rfl _ _ HR5.out ?_)
          obtain ⟨hB5, hc5, hn5⟩ := q4x HO5.out
          refine (qOZ _ _ (m + q) _ _ (by omega) hn5 hB5).mono ?_
          rintro ey w6 ⟨b6, d6, rfl, ho6, bw6⟩
          rw [enc_of (n := (l, ks)) (D := (Lf.head (l, ks) ++ l.flatMap Lf.key8 ++ l.flatMap Lf.val8)) (m := m) (by unfold Lf.front Lf.rest; rw [HLf.out]; rfl) (by rw [zw2, zw2, Lf.flat_len Lf.key8_len, Lf.flat_len Lf.val8_len, HM.out, HN.out]; rfl) HQ.out] at ho6
          have HO6 : Hid _ := q9q ho6 (on B1.out BW5.out).size
          clear ho6 HR5 HO5 hB5 hn5 hc5
          rw [HQ60.out] at HO6
          go_wp2
          go_ret2
          exact ⟨b6, d6, by rw [HQ60.out]; rfl, HO6.out, on (on B1.out BW5.out) bw6⟩
 · have hz1 : (n' : Int) > 0 := by omega
   have hz0 : ((n' : Int) == 0) = false := beq_eq_false_iff_ne.2 (by omega)
   have hzd : decide (0 < n') = true := decide_eq_true (by omega)
   have HLf : Hid (Lf.isLeaf (l, ks) = false) := by
    unfold Hid
    rw [Bool.eq_false_iff]
    intro h
    exact hl (by rw [← HN'.out]; exact Lf.leaf_iff.1 h)
   have HKl : Hid (n' = n + 1) := by have := HOK.out.kids.resolve_left (by rw [HLf.out]; decide); have e1 := HN.out; have e2 := HN'.out; simp only at this; unfold Hid; omega
   have hn4 : n' ≤ 4 := by have := HKl.out; omega
   clear hl
   obtain ⟨w2, hw2, V2, b2, z2⟩ := q0q w1 5 [.int .u8 1, .int .u8 (n : Int), .int .u8 0, .int .u8 0]
   have B2 : Hid (Below w1.heap.size w1 (w2.setCell ⟨w1.heap.size, 0, none⟩ (.int .u8 2))) := b2.setCell (zw0 _) _
   have HO2 : Hid ((w2.setCell ⟨w1.heap.size, 0, none⟩ (.int .u8 2)).ownsRow w1.heap.size 5 1 (.slice (some ⟨w1.heap.size, 0, none⟩) 4 4) 4 (cellsOf (Lf.head (l, ks)))) := by
    rw [← qVj HN.out hn3 2 (show Lf.kind (l, ks) = 2 by unfold Lf.kind; rw [HLf.out]; rfl)]
    exact (V2.set 0 (.int .u8 2)).owns rfl (zw0 _) (by decide)
   have f0 := V2.frozen 0
   have k0 := V2.cell (j := 0) rfl
   clear r0 r1
   obtain ⟨r2, r3⟩ := (HV1.out.below b2).two
   obtain ⟨r0, r1⟩ := HV1.out.two
   clear V2 b2 z2
   go_wp2
   clear r0 r1 r2 r3 k0 f0
   go_loopw [4, 5] (fun b i wr => ∃ (k m : Nat) (x : Option Addr) (d : Nat), k ≤ n ∧ i = .int .i64 k ∧ b = .slice x m d ∧ m ≤ 28 ∧ Hid (m = 4 + 8 * k) ∧ Hid (wr.ownsRow w1.heap.size 5 1 (.slice x m d) m (cellsOf (Lf.head (l, ks) ++ (l.take k).flatMap Lf.key8))) ∧ Below w1.heap.size w1 wr) (fun _ i _ => n - (intOf i).toNat)
   case atStart => exact ⟨0, 4, _, 4, Nat.zero_le _, rfl, rfl, by omega, rfl, by rw [List.take_zero, List.flatMap_nil, List.append_nil]; exact HO2.out, B2.out⟩
   case round =>
    obtain ⟨k, m, x, d, hk, rfl, rfl, hm, HM, HO, bel⟩ := hrel
    have BW : Hid _ := on B1.out bel
    obtain ⟨r0, r1⟩ := (HV1.out.below bel).two
    by_cases hlt : k < n
    · have hkl : k < l.length := by rw [HN.out]; exact hlt
      obtain ⟨g, off, rfl, -, -, hat⟩ := q0Z (Rep.below HR.out BW.out) (by omega)
      obtain ⟨c0, c1⟩ := hat k hkl
      have HB1 : Hid _ := bel
      have hkz : (k : Int) < (n : Int) := by omega
      clear hat bel
      go_wp2_with fail
      refine (qEX l[k].1.toNat 8 _ _ rfl rfl _ (by decide) (by decide) (qEZ _).1 (qEZ _).2).mono ?_
      rintro e w3 ⟨xa, xc, rfl, hB, hnil, b3⟩
      have HB : Hid (IsB _ _ _ _) := hB
      have HNil : Hid _ := hnil
      have HO3 : Hid (w3.ownsRow w1.heap.size 5 1 (.slice x m d) m (cellsOf (Lf.head (l, ks) ++ (l.take k).flatMap Lf.key8))) := qFj HO.out b3
      have HB3 : Hid _ := on HB1.out b3
      clear hB hnil b3 r0 r1 c0
      go_wp2_with (at_builtin; refine q5Z rfl _ _ rfl w1.heap.size _ m _ rfl HO3.out _ 8 _ _ rfl HB.out HNil.out (by omega) HB3.out.size ?_)
      intro b4 d4 w4 ho4 hg4
      have HB4 : Hid (Below w1.heap.size w1 w4) := HB3.out.grown hg4 HB3.out.size (q6q HO3.out)
      have HO4 : Hid (w4.ownsRow w1.heap.size 5 1 (.slice b4 (m + 8) d4) (m + 8) (cellsOf (Lf.head (l, ks) ++ (l.take (k + 1)).flatMap Lf.key8))) := by
       rw [Lf.flat_next _ hkl]
       unfold Hid
       try simp only [List.append_assoc]
       exact ho4
      have HM4 : Hid (m + 8 = 4 + 8 * (k + 1)) := by have := HM.out; unfold Hid; omega
      have hm4 : m + 8 ≤ 28 := by have := HM4.out; omega
      clear ho4 hg4 HO3 HB3 HB HNil
      go_wp2
      go_roundw
      case rel => exact ⟨k + 1, m + 8, b4, d4, by omega, by go_num, rfl, hm4, HM4, HO4, HB4.out⟩
      case measure => simp [intOf]; omega
    · obtain rfl : n = k := by omega
      rw [List.take_of_length_le (by rw [HN.out]; exact zw0 _)] at HO
      go_wp2
      obtain ⟨wq, hwq⟩ : ∃ wq, wq = wr := ⟨_, rfl⟩
      subst hwq
      go_loopw [4, 8] (fun b i wr => i = .int .i64 0 ∧ b = .slice x m d ∧ wr = wq) (fun _ i _ => 0)
      case atStart => exact ⟨rfl, rfl, rfl⟩
      case round =>
       obtain ⟨rfl, rfl, rfl⟩ := hrel
       go_wp2
       go_loopw [4, 11] (fun b i wr => ∃ (k m : Nat) (x : Option Addr) (d : Nat), k ≤ n' ∧ i = .int .i64 k ∧ b = .slice x m d ∧ m ≤ 44 ∧ Hid (m = 4 + 8 * n + 4 * k) ∧ Hid (wr.ownsRow w1.heap.size 5 1 (.slice x m d) m (cellsOf (Lf.head (l, ks) ++ l.flatMap Lf.key8 ++ (ks.take k).flatMap Lf.kid4))) ∧ Below w1.heap.size w1 wr) (fun _ i _ => n' - (intOf i).toNat)
       case atStart => exact ⟨0, m, x, d, Nat.zero_le _, rfl, rfl, by omega, HM, by rw [List.take_zero, List.flatMap_nil, List.append_nil]; exact HO, bel⟩
       case round =>
        obtain ⟨k, m, x, d, hk, rfl, rfl, hm, HM, HO, bel⟩ := hrel
        have BW : Hid _ := on B1.out bel
        obtain ⟨r0, r1⟩ := (HV1.out.below bel).two
        by_cases hlt : k < n'
        · have hkl : k < ks.length := by rw [HN'.out]; exact hlt
          obtain ⟨g, off, rfl, -, -, hat⟩ := q2z (Rep.below HK.out BW.out) (by omega)
          obtain ⟨c0, -, -⟩ := hat k hkl
          have hpg := HOK.out.pages ks[k] (List.getElem_mem hkl)
          obtain ⟨q, hq⟩ := Int.eq_ofNat_of_zero_le (show 0 ≤ ks[k] by omega)
          have hq1 : q ≤ 2048 := by omega
          have HQ : Hid (Lf.kid4 ks[k] = Oct.octs q 4) := by unfold Hid Lf.kid4; rw [hq]; rfl
          rw [show ks[k] = (q : Int) from hq] at c0
          clear hq hpg
          have HB1 : Hid _ := bel
          have hkz : (k : Int) < (n' : Int) := by omega
          clear hat bel
          go_wp2_with fail
          refine (qEX q 4 _ _ rfl rfl _ (by decide) (by decide) (Nat.lt_of_le_of_lt hq1 (by decide)) (by omega)).mono ?_
          rintro e w3 ⟨xa, xc, rfl, hB, hnil, b3⟩
          have HB : Hid (IsB _ _ _ _) := hB
          have HNil : Hid _ := hnil
          have HO3 : Hid (w3.ownsRow w1.heap.size 5 1 (.slice x m d) m (cellsOf (Lf.head (l, ks) ++ l.flatMap Lf.key8 ++ (ks.take k).flatMap Lf.kid4))) := qFj HO.out b3
          have HB3 : Hid _ := on HB1.out b3
          clear hB hnil b3 r0 r1 c0
          go_wp2_with (at_builtin; refine q5Z rfl _ _ rfl w1.heap.size _ m _ rfl HO3.out _ 4 _ _ rfl HB.out HNil.out (by omega) HB3.out.size ?_)
          intro b4 d4 w4 ho4 hg4
          have HB4 : Hid (Below w1.heap.size w1 w4) := HB3.out.grown hg4 HB3.out.size (q6q HO3.out)
          have HO4 : Hid (w4.ownsRow w1.heap.size 5 1 (.slice b4 (m + 4) d4) (m + 4) (cellsOf (Lf.head (l, ks) ++ l.flatMap Lf.key8 ++ (ks.take (k + 1)).flatMap Lf.kid4))) := by
           rw [Lf.flat_next _ hkl, HQ.out]
           unfold Hid
           try simp only [List.append_assoc]
           exact ho4
          have HM4 : Hid (m + 4 = 4 + 8 * n + 4 * (k + 1)) := by have := HM.out; unfold Hid; omega
          have hm4 : m + 4 ≤ 44 := by have := HM4.out; have := HKl.out; omega
          clear ho4 hg4 HO3 HB3 HB HNil
          go_wp2
          go_roundw
          case rel => exact ⟨k + 1, m + 4, b4, d4, by omega, by go_num, rfl, hm4, HM4, HO4, HB4.out⟩
          case measure => simp [intOf]; omega
        · obtain rfl : n' = k := by omega
          rw [List.take_of_length_le (by rw [HN'.out]; exact zw0 _)] at HO
          have hmm : m ≤ 44 := hm
          obtain ⟨q, hq⟩ : ∃ q, q = 60 - m := ⟨_, rfl⟩
          have hq0 : 0 < q := by omega
          have hqz : (60 : Int) - (m : Int) = (q : Int) := by omega
          have HQ : Hid _ := hq
          have hqm : m + q ≤ 64 := by omega
          have HQ60 : Hid (m + q = 60) := by unfold Hid; omega
          clear hq
          obtain ⟨i0, hi, hz0, hz1', hz2⟩ := info_parts qAZ
          obtain ⟨b5, d5, w5, hr5, ho5, bg5⟩ := qCZ (P := Tryz.prog) wr w1.heap.size 53 3 53 5 i0 (.int .u8 0) .i64 .i64 1 Tryz.underlying53 Tryz.underlying3 hi hz0 hz1' hz2 rfl rfl _ m _ HO.out q hq0 (by unfold maxLen; omega) (by omega) bel.size
          have HR5 : Hid _ := hr5
          have BW5 : Hid (Below w1.heap.size w1 w5) := bel.grown bg5 bel.size (fun k hk => q6q HO.out k hk)
          have HO5 : Hid (w5.ownsRow w1.heap.size 5 1 (.slice b5 (m + q) d5) (m + q) (cellsOf ((Lf.head (l, ks) ++ l.flatMap Lf.key8 ++ ks.flatMap Lf.kid4) ++ List.replicate q 0))) := by
           rw [q3X, show cellsOf (List.replicate q 0) = List.replicate q (.int .u8 0) by simp [cellsOf]]
           exact ho5
          clear i0 hi hz0 hz1' hz2 hr5 ho5 bg5
          go_wp2_with (at_builtin; refine Lib.wpList_append_run _ rfl _ _ _ _ rfl _ _ rfl rfl _ _ HR5.out ?_)
          obtain ⟨hB5, hc5, hn5⟩ := q4x HO5.out
          refine (qOZ _ _ (m + q) _ _ (by omega) hn5 hB5).mono ?_
          rintro ey w6 ⟨b6, d6, rfl, ho6, bw6⟩
          rw [enc_of (n := (l, ks)) (D := (Lf.head (l, ks) ++ l.flatMap Lf.key8 ++ ks.flatMap Lf.kid4)) (m := m) (by unfold Lf.front Lf.rest; rw [HLf.out]; rfl) (by rw [zw2, zw2, Lf.flat_len Lf.key8_len, Lf.flat_len Lf.kid4_len, HM.out, HN.out, HN'.out]; rfl) HQ.out] at ho6
          have HO6 : Hid _ := q9q ho6 (on B1.out BW5.out).size
          clear ho6 HR5 HO5 hB5 hn5 hc5
          rw [HQ60.out] at HO6
          go_wp2
          go_ret2
          exact ⟨b6, d6, by rw [HQ60.out]; rfl, HO6.out, on (on B1.out BW5.out) bw6⟩
theorem refEncode_no (w : World) (P P' : Nat → Prop) (a a' : Option Addr) (n c n' c' : Nat) (l : List Itm) (ks : List Int) (hL : rItms.rd w P [.slice a n c] l) (hK : rKids.rd w P' [.slice a' n' c'] ks) (hok : Lf.ok (l, ks) = false) :
 Calls Tryz.prog 99 #[.agg #[.slice a n c, .slice a' n' c']] w fun e w' => e = .returned (.tuple #[.slice none 0 0, .int .i64 9]) ∧ Below w.heap.size w w' := by
 have HE0 : Hid (Lf.encodeE (l, ks) = 9) := by unfold Hid Lf.encodeE; rw [hok]; rfl
 have HR : Hid _ := hL
 have HK : Hid _ := hK
 obtain ⟨w0, hw0, V0, b0, z0⟩ := q0q w 139 [.slice a n c, .slice a' n' c']
 have HV0 : Hid _ := V0
 have B0 : Hid _ := b0
 clear hL hK V0 b0 z0 hok
 go_enter Tryz.func99, Tryz.ntmps99
 obtain ⟨r0, r1⟩ := HV0.out.two
 go_wp2_with fail
 refine (qTX _ P P' a a' n c n' c' l ks (Rep.below HR.out B0.out) (Rep.below HK.out B0.out)).mono ?_
 rintro e w1 ⟨rfl, b1⟩
 rw [HE0.out]
 have B1 : Hid _ := on B0.out b1
 clear r0 r1 b1
 go_wp2
 go_ret2
 exact ⟨rfl, B1.out⟩
theorem qOX (w : World) (P P' : Nat → Prop) (a a' : Option Addr) (n c n' c' : Nat) (l : List Itm) (ks : List Int) (hL : rItms.rd w P [.slice a n c] l) (hK : rKids.rd w P' [.slice a' n' c'] ks) :
 Calls Tryz.prog 99 #[.agg #[.slice a n c, .slice a' n' c']] w fun e w' => ∃ b m d, e = .returned (.tuple #[.slice b m d, .int .i64 (Lf.encodeE (l, ks))]) ∧ w'.ownsRow w.heap.size 5 1 (.slice b m d) m (cellsOf (Lf.encodeL (l, ks))) ∧ Below w.heap.size w w' := by
 cases h : Lf.ok (l, ks)
 · refine (refEncode_no w P P' a a' n c n' c' l ks hL hK h).mono ?_
   rintro e w' ⟨rfl, b1⟩
   refine ⟨none, 0, 0, ?_, ?_, b1⟩
   · unfold Lf.encodeE; rw [h]; rfl
   · unfold Lf.encodeL; rw [h]; exact q7J _ _
 · refine (refEncode_ok w P P' a a' n c n' c' l ks hL hK h).mono ?_
   rintro e w' ⟨b, d, rfl, ho, b1⟩
   refine ⟨b, 64, d, ?_, ?_, b1⟩
   · unfold Lf.encodeE; rw [h]; rfl
   · unfold Lf.encodeL; rw [h]; exact ho
theorem qXQ {l : List UInt8} (h : l.length = 64) (hE : Crc.openE l = 0) : (Crc.openL l).length = 60 := by
 rcases Crc.openE_cases l with ⟨g, _, _⟩ | ⟨g1, g2, g3, g4⟩ | ⟨_, _, g, _⟩
 · omega
 · rw [g4, zw4]; omega
 · rw [hE] at g; cases g
theorem head_at {w : World} {ab off : Nat} {b : List UInt8} (hB : IsB w (some ⟨ab, off, none⟩) 60 b) (j : Nat) (hj : j < 60) : w.cell? ⟨ab, off + j, none⟩ = some (.int .u8 ((b.getD j 0).toNat : Int)) := by
 have hl := hB.1
 have h := hB.2.2 _ rfl j (by omega)
 rw [Addr.add_lit] at h
 rw [h, show b.getD j 0 = b[j] by simp [List.getD, zw3 (show j < b.length by omega)]]
theorem u8_no {x : UInt8} {q : Nat} (hq : q < 256) (h : x ≠ UInt8.ofNat q) : ((x.toNat : Int) != (q : Int)) = true := by
 rw [bne_iff_ne]
 intro e
 refine h (UInt8.toNat_inj.1 ?_)
 rw [UInt8.toNat_ofNat', Nat.mod_eq_of_lt hq]
 omega
theorem qPq (w : World) (a : Option Addr) (n cap : Nat) (hn : n ≤ 140737488351232) (h : n ≠ 64) :
 Calls Tryz.prog 74 #[.slice a n cap] w fun e w' => ∃ v v', e = .returned (.tuple #[.agg #[v, v'], .int .i64 8]) ∧ OwnI 45 w' w.heap.size v [] ∧ OwnK 3 w' w.heap.size v' [] ∧ Below w.heap.size w w' := by
 have hne : ((n : Int) != 64) = true := bne_iff_ne.2 (by omega)
 obtain ⟨w0, hw0, V, bw0, -⟩ := q0q w 139 [.slice none 0 0, .slice none 0 0]
 obtain ⟨z0, z1⟩ := V.two
 have f0 := V.frozen 0
 have f1 := V.frozen 1
 go_enter Tryz.func74, Tryz.ntmps74
 go_wp2
 exact q8Q V bw0 (zw0 _) _ _ _ rfl rfl rfl Tryz.underlying139 rfl (by kernel_rfl) (fun w' _ b' => ⟨_, _, rfl, OwnI.nil _ _ _, OwnK.nil _ _ _, b'⟩)
theorem qSz (w : World) (a : Option Addr) (cap : Nat) (l : List UInt8) (hcap : 64 ≤ cap) (hnil : a = none → cap = 0) (hB : IsB w a 64 l) (hE : Crc.openE l ≠ 0) :
 Calls Tryz.prog 74 #[.slice a 64 cap] w fun e w' => ∃ v v', e = .returned (.tuple #[.agg #[v, v'], .int .i64 21]) ∧ OwnI 45 w' w.heap.size v [] ∧ OwnK 3 w' w.heap.size v' [] ∧ Below w.heap.size w w' := by
 have HB : Hid (IsB _ _ _ _) := hB
 clear hB
 obtain ⟨w0, hw0, V, bw0, -⟩ := q0q w 139 [.slice none 0 0, .slice none 0 0]
 go_enter Tryz.func74, Tryz.ntmps74
 go_wp2_with fail
 refine (qOJ _ _ 64 _ l (by decide) hcap (HB.out.below bw0)).mono ?_
 rintro ex w1 ⟨xa, xn, xc, rfl, ho, bw1⟩
 have hEb : (Crc.openE l != 0) = true := bne_iff_ne.2 hE
 have V := V.below bw1
 obtain ⟨z0, z1⟩ := V.two
 have f0 := V.frozen 0
 have f1 := V.frozen 1
 clear ho hE
 go_wp2
 exact q8Q V (on bw0 bw1) (zw0 _) _ _ _ rfl rfl rfl Tryz.underlying139 rfl (by kernel_rfl) (fun w' _ b' => ⟨_, _, rfl, OwnI.nil _ _ _, OwnK.nil _ _ _, b'⟩)
theorem qSj (w : World) (a : Option Addr) (cap : Nat) (l : List UInt8) (hcap : 64 ≤ cap) (hnil : a = none → cap = 0) (hB : IsB w a 64 l) (hE : Crc.openE l = 0) (hk : ¬ ((Crc.openL l).getD 0 0 = 1 ∨ (Crc.openL l).getD 0 0 = 2)) :
 Calls Tryz.prog 74 #[.slice a 64 cap] w fun e w' => ∃ v v', e = .returned (.tuple #[.agg #[v, v'], .int .i64 22]) ∧ OwnI 45 w' w.heap.size v [] ∧ OwnK 3 w' w.heap.size v' [] ∧ Below w.heap.size w w' := by
 have hl64 : Hid (l.length = 64) := hB.1
 have HL : Hid ((Crc.openL l).length = 60) := qXQ hB.1 hE
 have HB : Hid (IsB _ _ _ _) := hB
 have HE : Hid _ := hE
 clear hB
 obtain ⟨w0, hw0, V, bw0, -⟩ := q0q w 139 [.slice none 0 0, .slice none 0 0]
 go_enter Tryz.func74, Tryz.ntmps74
 go_wp2_with fail
 refine (qOJ _ _ 64 _ l (by decide) hcap (HB.out.below bw0)).mono ?_
 rintro ex w1 ⟨xa, xn, xc, rfl, ho, bw1⟩
 rw [hE]
 obtain rfl : xn = 60 := (q9J ho).trans HL.out
 obtain ⟨hX, hXc, -⟩ := q4x ho
 obtain ⟨xb, xo, rfl, -⟩ := hX.place (by decide)
 have HX : Hid (IsB w1 (some ⟨xb, xo, none⟩) 60 (Crc.openL l)) := hX
 have V1 : Hid (Row w1 w.heap.size 139 [.slice none 0 0, .slice none 0 0]) := V.below bw1
 have BW1 : Hid (Below w.heap.size w w1) := on bw0 bw1
 have HB1 : Hid (IsB w1 a 64 l) := (HB.out.below bw0).below bw1
 clear ho hE V bw1 bw0 hX
 have x0 := head_at HX.out 0 (by decide)
 rw [Nat.add_zero] at x0
 obtain ⟨X, hX⟩ : ∃ X, X = (Crc.openL l).getD 0 0 := ⟨_, rfl⟩
 rw [← hX] at x0
 rw [← hX] at hk
 have k1 : ((X.toNat : Int) != 1) = true := u8_no (q := 1) (by decide) (fun e => hk (.inl e))
 have k2 : ((X.toNat : Int) != 2) = true := u8_no (q := 2) (by decide) (fun e => hk (.inr e))
 clear hk hX
 have V := V1.out
 obtain ⟨z0, z1⟩ := V.two
 have f0 := V.frozen 0
 have f1 := V.frozen 1
 go_wp2
 exact q8Q V BW1.out (zw0 _) _ _ _ rfl rfl rfl Tryz.underlying139 rfl (by kernel_rfl) (fun w' _ b' => ⟨_, _, rfl, OwnI.nil _ _ _, OwnK.nil _ _ _, b'⟩)
set_option maxRecDepth 20000 in
theorem refDecode_in (w : World) (a : Option Addr) (cap : Nat) (l : List UInt8) (hcap : 64 ≤ cap) (hnil : a = none → cap = 0) (hB : IsB w a 64 l) (hE : Crc.openE l = 0) (hk : (Crc.openL l).getD 0 0 = 1 ∨ (Crc.openL l).getD 0 0 = 2) :
 Calls Tryz.prog 74 #[.slice a 64 cap] w fun e w' => ∃ v v', e = .returned (.tuple #[.agg #[v, v'], .int .i64 (Lf.decodeE l)]) ∧ OwnI 45 w' w.heap.size v (Lf.decodeN l).1 ∧ OwnK 3 w' w.heap.size v' (Lf.decodeN l).2 ∧ Below w.heap.size w w' := by
 have HKd : Hid _ := hk
 clear hk
 have hl64 : Hid (l.length = 64) := hB.1
 have HL : Hid ((Crc.openL l).length = 60) := qXQ hB.1 hE
 have HB : Hid (IsB _ _ _ _) := hB
 have HE : Hid _ := hE
 clear hB
 obtain ⟨w0, hw0, V, bw0, -⟩ := q0q w 139 [.slice none 0 0, .slice none 0 0]
 go_enter Tryz.func74, Tryz.ntmps74
 go_wp2_with fail
 refine (qOJ _ _ 64 _ l (by decide) hcap (HB.out.below bw0)).mono ?_
 rintro ex w1 ⟨xa, xn, xc, rfl, ho, bw1⟩
 rw [hE]
 obtain rfl : xn = 60 := (q9J ho).trans HL.out
 obtain ⟨hX, hXc, -⟩ := q4x ho
 obtain ⟨xb, xo, rfl, -⟩ := hX.place (by decide)
 have HX : Hid (IsB w1 (some ⟨xb, xo, none⟩) 60 (Crc.openL l)) := hX
 have V1 : Hid (Row w1 w.heap.size 139 [.slice none 0 0, .slice none 0 0]) := V.below bw1
 have BW1 : Hid (Below w.heap.size w w1) := on bw0 bw1
 have HB1 : Hid (IsB w1 a 64 l) := (HB.out.below bw0).below bw1
 clear ho hE V bw1 bw0 hX
 have HD : Hid _ := Lf.decode_told hl64.out HE.out HKd.out
 have x0 := head_at HX.out 0 (by decide)
 rw [Nat.add_zero] at x0
 obtain ⟨X, hX⟩ : ∃ X, X = (Crc.openL l).getD 0 0 := ⟨_, rfl⟩
 rw [← hX] at x0
 have HX12 : Hid (X = 1 ∨ X = 2) := by rw [hX]; exact HKd.out
 have k3 : (if ((X.toNat : Int) != 1) = true then ((X.toNat : Int) != 2) else false) = false := by
  rcases HX12.out with h | h <;> rw [h] <;> decide
 clear hX
 have hsplit : X = 1 ∨ X = 2 := HX12.out
 have CONT : True := trivial
 have HLT : Hid (w.heap.size < w1.heap.size) := V1.out.lt
 rcases hsplit with rfl | rfl
 · have x0 : w1.cell? ⟨xb, xo, none⟩ = some (.int .u8 1) := x0
   go_wp2_with fail
   refine (told_u _ _ _ (Crc.openL l) hXc HX.out HKd.out).mono ?_
   rintro ex w2 ⟨v, v', rfl, hoI, hoK, b2⟩
   obtain ⟨ia, ic, rfl, -, -⟩ := hoI.slice
   obtain ⟨ka, kc, rfl, -, -⟩ := hoK.slice
   obtain ⟨il, hil⟩ : ∃ il, il = (Lf.told (Crc.openL l)).1.length := ⟨_, rfl⟩
   obtain ⟨kl, hkl⟩ : ∃ kl, kl = (Lf.told (Crc.openL l)).2.length := ⟨_, rfl⟩
   rw [← hil] at hoI ⊢
   rw [← hkl] at hoK ⊢
   have HOI : Hid _ := hoI
   have HOK : Hid _ := hoK
   have HLI : Hid ((Lf.told (Crc.openL l)).1.length ≤ 255) := (by unfold Hid; rw [Lf.told_len]; have := Lf.many_le (Crc.openL l); omega)
   have HLK : Hid ((Lf.told (Crc.openL l)).2.length ≤ 256) := (by unfold Hid Lf.told; have := Lf.many_le (Crc.openL l); simp only; split <;> simp; omega)
   clear hil hkl hoI hoK
   obtain ⟨w3, hw3, V3, b3, z3⟩ := q0q w2 139 [.slice ia il ic, .slice ka kl kc]
   have HV3 : Hid _ := V3
   have R3 : Hid _ := (V1.out.below b2).below b3
   have BW3 : Hid (Below w.heap.size w w3) := on (on BW1.out b2) b3
   have HB3 : Hid (IsB w3 a 64 l) := (HB1.out.below b2).below b3
   have HOI3 : Hid _ := HOI.out.below b3
   have HOK3 : Hid _ := HOK.out.below b3
   obtain ⟨s0, s1⟩ := HV3.out.two
   clear V3 b3 z3 b2 HOI HOK
   go_wp2_with fail
   refine (qOX _ _ _ ia ka il ic kl kc (Lf.told (Crc.openL l)).1 (Lf.told (Crc.openL l)).2 (HOI3.out.rd (by have := HLI.out; omega)) (HOK3.out.rd (by have := HLK.out; omega))).mono ?_
   rintro ex w4 ⟨ya, yn, yc, rfl, hoY, b4⟩
   have HV4 : Hid _ := HV3.out.below b4
   have R4 : Hid _ := R3.out.below b4
   have BW4 : Hid _ := on BW3.out b4
   have HB4 : Hid (IsB w4 a 64 l) := HB3.out.below b4
   have HOI4 : Hid _ := HOI3.out.below b4
   have HOK4 : Hid _ := HOK3.out.below b4
   clear s0 s1 b4 HV3 R3 HB3 HOI3 HOK3 hw3
   obtain ⟨s0, s1⟩ := HV4.out.two
   obtain ⟨z0, z1⟩ := R4.out.two
   have f0 := R4.out.frozen 0
   have f1 := R4.out.frozen 1
   obtain ⟨NN, hNN⟩ : ∃ NN, NN = Lf.told (Crc.openL l) := ⟨_, rfl⟩
   rw [show ((Lf.told (Crc.openL l)).1, (Lf.told (Crc.openL l)).2) = NN from hNN.symm] at hoY ⊢
   rw [← hNN] at HOI4 HOK4 HD
   cases hok : Lf.ok NN
   · have e9 : Lf.encodeE NN = 9 := by unfold Lf.encodeE; rw [hok]; rfl
     have HD2 : Hid _ := HD.out.2 (fun h => by rw [hok] at h; cases h.1)
     rw [e9]
     clear e9 hok hoY hNN
     go_wp2
     rw [HD2.out.1, HD2.out.2]
     exact q8Q R4.out BW4.out (zw0 _) _ _ _ rfl rfl rfl Tryz.underlying139 rfl (by kernel_rfl) (fun w' _ b' => ⟨_, _, rfl, OwnI.nil _ _ _, OwnK.nil _ _ _, b'⟩)
   · have e0 : Lf.encodeE NN = 0 := if_pos hok
     have eL : Lf.encodeL NN = Lf.enc NN := if_pos hok
     rw [eL] at hoY
     rw [e0]
     have HOKN : Hid _ := hok
     obtain rfl : yn = 64 := (q9J hoY).trans (Lf.enc_len (Lf.ok_iff.1 hok))
     have HY : Hid (IsB w4 ya 64 (Lf.enc NN)) := (q4x hoY).1
     obtain ⟨EE, hEE⟩ : ∃ EE, EE = Lf.enc NN := ⟨_, rfl⟩
     rw [← hEE] at HY HD
     clear e0 eL hok hoY hNN hEE
     have hs1 := q4X w4 ya 64 yc _ HY.out
     have hs2 := q4X w4 a 64 cap _ HB4.out
     cases hc : (EE == l)
     · have hcn : (EE != l) = true := by rw [bne, hc]; rfl
       have hcp : ¬ EE = l := beq_eq_false_iff_ne.1 hc
       have HD2 : Hid _ := HD.out.2 (fun h => hcp h.2)
       clear hcp
       go_wp2
       rw [HD2.out.1, HD2.out.2]
       exact q8Q R4.out BW4.out (zw0 _) _ _ _ rfl rfl rfl Tryz.underlying139 rfl (by kernel_rfl) (fun w' _ b' => ⟨_, _, rfl, OwnI.nil _ _ _, OwnK.nil _ _ _, b'⟩)
     · have hcn : (EE != l) = false := by rw [bne, hc]; rfl
       have hcp : EE = l := beq_iff_eq.1 hc
       have HD2 : Hid _ := HD.out.1 ⟨HOKN.out, hcp⟩
       clear hcp
       go_wp2
       rw [HD2.out.1, HD2.out.2]
       exact q8Q R4.out BW4.out (zw0 _) _ _ _ rfl rfl rfl Tryz.underlying139 rfl (by kernel_rfl) (fun w' k' b' => ⟨_, _, rfl, (HOI4.out.keptL k' HLT.out).mono BW1.out.size, (HOK4.out.keptL k' HLT.out).mono BW1.out.size, b'⟩)
 · have x0 : w1.cell? ⟨xb, xo, none⟩ = some (.int .u8 2) := x0
   go_wp2_with fail
   refine (told_u _ _ _ (Crc.openL l) hXc HX.out HKd.out).mono ?_
   rintro ex w2 ⟨v, v', rfl, hoI, hoK, b2⟩
   obtain ⟨ia, ic, rfl, -, -⟩ := hoI.slice
   obtain ⟨ka, kc, rfl, -, -⟩ := hoK.slice
   obtain ⟨il, hil⟩ : ∃ il, il = (Lf.told (Crc.openL l)).1.length := ⟨_, rfl⟩
   obtain ⟨kl, hkl⟩ : ∃ kl, kl = (Lf.told (Crc.openL l)).2.length := ⟨_, rfl⟩
   rw [← hil] at hoI ⊢
   rw [← hkl] at hoK ⊢
   have HOI : Hid _ := hoI
   have HOK : Hid _ := hoK
   have HLI : Hid ((Lf.told (Crc.openL l)).1.length ≤ 255) := (by unfold Hid; rw [Lf.told_len]; have := Lf.many_le (Crc.openL l); omega)
   have HLK : Hid ((Lf.told (Crc.openL l)).2.length ≤ 256) := (by unfold Hid Lf.told; have := Lf.many_le (Crc.openL l); simp only; split <;> simp; omega)
   clear hil hkl hoI hoK
   obtain ⟨w3, hw3, V3, b3, z3⟩ := q0q w2 139 [.slice ia il ic, .slice ka kl kc]
   have HV3 : Hid _ := V3
   have R3 : Hid _ := (V1.out.below b2).below b3
   have BW3 : Hid (Below w.heap.size w w3) := on (on BW1.out b2) b3
   have HB3 : Hid (IsB w3 a 64 l) := (HB1.out.below b2).below b3
   have HOI3 : Hid _ := HOI.out.below b3
   have HOK3 : Hid _ := HOK.out.below b3
   obtain ⟨s0, s1⟩ := HV3.out.two
   clear V3 b3 z3 b2 HOI HOK
   go_wp2_with fail
   refine (qOX _ _ _ ia ka il ic kl kc (Lf.told (Crc.openL l)).1 (Lf.told (Crc.openL l)).2 (HOI3.out.rd (by have := HLI.out; omega)) (HOK3.out.rd (by have := HLK.out; omega))).mono ?_
   rintro ex w4 ⟨ya, yn, yc, rfl, hoY, b4⟩
   have HV4 : Hid _ := HV3.out.below b4
   have R4 : Hid _ := R3.out.below b4
   have BW4 : Hid _ := on BW3.out b4
   have HB4 : Hid (IsB w4 a 64 l) := HB3.out.below b4
   have HOI4 : Hid _ := HOI3.out.below b4
   have HOK4 : Hid _ := HOK3.out.below b4
   clear s0 s1 b4 HV3 R3 HB3 HOI3 HOK3 hw3
   obtain ⟨s0, s1⟩ := HV4.out.two
   obtain ⟨z0, z1⟩ := R4.out.two
   have f0 := R4.out.frozen 0
   have f1 := R4.out.frozen 1
   obtain ⟨NN, hNN⟩ : ∃ NN, NN = Lf.told (Crc.openL l) := ⟨_, rfl⟩
   rw [show ((Lf.told (Crc.openL l)).1, (Lf.told (Crc.openL l)).2) = NN from hNN.symm] at hoY ⊢
   rw [← hNN] at HOI4 HOK4 HD
   cases hok : Lf.ok NN
   · have e9 : Lf.encodeE NN = 9 := by unfold Lf.encodeE; rw [hok]; rfl
     have HD2 : Hid _ := HD.out.2 (fun h => by rw [hok] at h; cases h.1)
     rw [e9]
     clear e9 hok hoY hNN
     go_wp2
     rw [HD2.out.1, HD2.out.2]
     exact q8Q R4.out BW4.out (zw0 _) _ _ _ rfl rfl rfl Tryz.underlying139 rfl (by kernel_rfl) (fun w' _ b' => ⟨_, _, rfl, OwnI.nil _ _ _, OwnK.nil _ _ _, b'⟩)
   · have e0 : Lf.encodeE NN = 0 := if_pos hok
     have eL : Lf.encodeL NN = Lf.enc NN := if_pos hok
     rw [eL] at hoY
     rw [e0]
     have HOKN : Hid _ := hok
     obtain rfl : yn = 64 := (q9J hoY).trans (Lf.enc_len (Lf.ok_iff.1 hok))
     have HY : Hid (IsB w4 ya 64 (Lf.enc NN)) := (q4x hoY).1
     obtain ⟨EE, hEE⟩ : ∃ EE, EE = Lf.enc NN := ⟨_, rfl⟩
     rw [← hEE] at HY HD
     clear e0 eL hok hoY hNN hEE
     have hs1 := q4X w4 ya 64 yc _ HY.out
     have hs2 := q4X w4 a 64 cap _ HB4.out
     cases hc : (EE == l)
     · have hcn : (EE != l) = true := by rw [bne, hc]; rfl
       have hcp : ¬ EE = l := beq_eq_false_iff_ne.1 hc
       have HD2 : Hid _ := HD.out.2 (fun h => hcp h.2)
       clear hcp
       go_wp2
       rw [HD2.out.1, HD2.out.2]
       exact q8Q R4.out BW4.out (zw0 _) _ _ _ rfl rfl rfl Tryz.underlying139 rfl (by kernel_rfl) (fun w' _ b' => ⟨_, _, rfl, OwnI.nil _ _ _, OwnK.nil _ _ _, b'⟩)
     · have hcn : (EE != l) = false := by rw [bne, hc]; rfl
       have hcp : EE = l := beq_iff_eq.1 hc
       have HD2 : Hid _ := HD.out.1 ⟨HOKN.out, hcp⟩
       clear hcp
       go_wp2
       rw [HD2.out.1, HD2.out.2]
       exact q8Q R4.out BW4.out (zw0 _) _ _ _ rfl rfl rfl Tryz.underlying139 rfl (by kernel_rfl) (fun w' k' b' => ⟨_, _, rfl, (HOI4.out.keptL k' HLT.out).mono BW1.out.size, (HOK4.out.keptL k' HLT.out).mono BW1.out.size, b'⟩)
theorem qGQ (w : World) (a : Option Addr) (n cap : Nat) (l : List UInt8) (hn : n ≤ 140737488351232) (hcap : n ≤ cap) (hnil : a = none → cap = 0) (hB : IsB w a n l) :
 Calls Tryz.prog 74 #[.slice a n cap] w fun e w' => ∃ v v', e = .returned (.tuple #[.agg #[v, v'], .int .i64 (Lf.decodeE l)]) ∧ OwnI 45 w' w.heap.size v (Lf.decodeN l).1 ∧ OwnK 3 w' w.heap.size v' (Lf.decodeN l).2 ∧ Below w.heap.size w w' := by
 have hl := hB.1
 by_cases h : n = 64
 · subst h
   by_cases hE : Crc.openE l = 0
   · by_cases hk : (Crc.openL l).getD 0 0 = 1 ∨ (Crc.openL l).getD 0 0 = 2
     · exact refDecode_in w a cap l hcap hnil hB hE hk
     · rw [(Lf.decode_kind hl hE hk).1, (Lf.decode_kind hl hE hk).2]
       exact qSj w a cap l hcap hnil hB hE hk
   · rw [(Lf.decode_refused hl hE).1, (Lf.decode_refused hl hE).2]
     exact qSz w a cap l hcap hnil hB hE
 · rw [(Lf.decode_length (b := l) (by omega)).1, (Lf.decode_length (b := l) (by omega)).2]
   exact qPq w a n cap hn h
def NodeDone (s : Pgs) (f : Nat) (g gm : Nat) (P : Nat → Prop) (pa : Option Addr) (pc : Nat) (oa : Option Addr) (on_ oc base : Nat) (k : Tr.Wk) (p : Int) (lo hi : Bnd) (w : World) (e : Ending) (w' : World) : Prop :=
 ∃ oa' on' oc', e = .returned (.tuple #[]) ∧ Walks w' g gm P pa pc oa' on' oc' base s (Tr.node s f p lo hi k) ∧ Quiet g gm oa on_ oc w w' ∧ ∀ q, (Value.slice oa' on' oc').ownBlock = some q → (Value.slice oa on_ oc).ownBlock = some q ∨ w.heap.size ≤ q
theorem NodeDone.of {s : Pgs} {f : Nat} {g gm : Nat} {P : Nat → Prop} {pa : Option Addr} {pc : Nat} {oa : Option Addr} {on_ oc base : Nat} {k : Tr.Wk} {p : Int} {lo hi : Bnd} {w : World} {e : Ending} {w' : World}
 (h : ∃ oa' on' oc', e = .returned (.tuple #[]) ∧ Walks w' g gm P pa pc oa' on' oc' base s (Tr.node s f p lo hi k) ∧ Quiet g gm oa on_ oc w w' ∧ ∀ q, (Value.slice oa' on' oc').ownBlock = some q → (Value.slice oa on_ oc).ownBlock = some q ∨ w.heap.size ≤ q) : NodeDone s f g gm P pa pc oa on_ oc base k p lo hi w e w' := h
def NodeSaid (s : Pgs) (f : Nat) : Prop := ∀ (w : World) (B g gm : Nat) (P : Nat → Prop) (pa : Option Addr) (pc : Nat) (oa : Option Addr) (on_ oc base : Nat) (k : Tr.Wk) (p : Int) (lv : Int) (lo hi : Bnd) (va vb : Value),
 lv = 17 - (f : Int) → qTj P B g gm base → Walks w g gm P pa pc oa on_ oc base s k → IsBnd w va lo → IsBnd w vb hi → (∀ q, va.ownBlock = some q ∨ vb.ownBlock = some q → q ≠ g ∧ q ≠ gm ∧ (Value.slice oa on_ oc).ownBlock ≠ some q) → base ≤ w.heap.size → -9223372036854775808 ≤ p → p ≤ 9223372036854775807 →
 Calls Tryz.prog 61 #[.pointer (some ⟨g, 0, none⟩), .int .i64 p, .int .i64 lv, va, vb] w fun e w' => NodeDone s f g gm P pa pc oa on_ oc base k p lo hi w e w'
theorem Quiet.bad {w : World} {g gm : Nat} {oa : Option Addr} {on_ oc : Nat} (x : Value) (j : Nat) : Quiet g gm oa on_ oc w (w.setCell ⟨g, j, none⟩ x) := (Kept.refl _ w).setCell (p := ⟨g, j, none⟩) (fun h => h.2.1 rfl) x
set_option maxRecDepth 20000 in
theorem node_zero (s : Pgs) (hs : s.length ≤ 2048) : NodeSaid s 0 := by
 intro w B g gm P pa pc oa on_ oc base k p lv lo hi va vb hlv hA hW hVa hVb hFr hbs hp0 hp1
 have A : Hid _ := hA
 have H : Hid _ := hW
 have HVa : Hid (IsBnd w va lo) := hVa
 have HVb : Hid (IsBnd w vb hi) := hVb
 have HFr : Hid _ := hFr
 have HBs : Hid (base ≤ w.heap.size) := hbs
 obtain ⟨c0, c1, c2, c3, c4⟩ := hW.five
 have f4 := hW.row.frozen 4
 have hlen : s.length ≤ 2048 := hs
 clear hA hW hVa hVb hFr hbs
 have hlz : lv > 16 := by omega
 clear hlv
 have HEq : Hid (Tr.node s 0 p lo hi k = { k with bad := true }) := rfl
 cases hb : k.bad
 · rw [hb] at c4
   clear hb
   go_enter Tryz.func61, Tryz.ntmps61
   go_wp2
   (try simp only [Exit.inBlock, Exit.then])
   refine bodyPost_ret (results_none rfl _ _ _) rfl ?_
   exact NodeDone.of ⟨oa, on_, oc, rfl, by rw [HEq.out]; exact H.out.setBad A.out true, Quiet.bad _ _, fun q hq => .inl hq⟩
 · rw [hb] at c4
   clear hb
   go_enter Tryz.func61, Tryz.ntmps61
   go_wp2
   (try simp only [Exit.inBlock, Exit.then])
   refine bodyPost_ret (results_none rfl _ _ _) rfl ?_
   exact NodeDone.of ⟨oa, on_, oc, rfl, by rw [HEq.out]; exact H.out.setBad A.out true, Quiet.bad _ _, fun q hq => .inl hq⟩
set_option maxRecDepth 20000 in
theorem node_shut (s : Pgs) (hs : s.length ≤ 2048) (f : Nat) (hf : f < 16) (w : World) (B g gm : Nat) (P : Nat → Prop) (pa : Option Addr) (pc : Nat) (oa : Option Addr) (on_ oc base : Nat) (k : Tr.Wk) (p : Int) (lv : Int) (lo hi : Bnd) (va vb : Value)
 (hlv : lv = 17 - ((f + 1 : Nat) : Int)) (hA : qTj P B g gm base) (hW : Walks w g gm P pa pc oa on_ oc base s k) (hp0 : -9223372036854775808 ≤ p) (hp1 : p ≤ 9223372036854775807) (ho : Tr.open_ s p k = false) :
 Calls Tryz.prog 61 #[.pointer (some ⟨g, 0, none⟩), .int .i64 p, .int .i64 lv, va, vb] w fun e w' => NodeDone s (f + 1) g gm P pa pc oa on_ oc base k p lo hi w e w' := by
 have A : Hid _ := hA
 have H : Hid _ := hW
 obtain ⟨c0, c1, c2, c3, c4⟩ := hW.five
 have f4 := hW.row.frozen 4
 have hlen : s.length ≤ 2048 := hs
 have hlz : ¬ lv > 16 := by omega
 have HEq : Hid (Tr.node s (f + 1) p lo hi k = { k with bad := true }) := by unfold Hid Tr.node; rw [ho]; rfl
 have HO : Hid (¬ (k.bad = false ∧ 1 ≤ p ∧ p ≤ s.length ∧ k.met.getD (p.toNat - 1) false = false)) := fun h => by rw [Tr.open_iff.2 h] at ho; cases ho
 have HM : Hid (∀ q : Nat, q < s.length → w.cell? ⟨gm, q, none⟩ = some (.bool (k.met.getD q false))) := fun q hq => by
  have hq' : q < k.met.length := by rw [hW.len]; exact hq
  refine hW.met.cell ?_
  simp [q5x, List.getD, zw3 hq']
 clear hA hW hlv ho
 cases hb : k.bad
 · rw [hb] at c4
   by_cases p1 : p < 1
   · clear hb
     go_enter Tryz.func61, Tryz.ntmps61
     go_wp2
     (try simp only [Exit.inBlock, Exit.then])
     refine bodyPost_ret (results_none rfl _ _ _) rfl ?_
     exact NodeDone.of ⟨oa, on_, oc, rfl, by rw [HEq.out]; exact H.out.setBad A.out true, Quiet.bad _ _, fun q hq => .inl hq⟩
   · by_cases p2 : p > (s.length : Int)
     · clear hb
       go_enter Tryz.func61, Tryz.ntmps61
       go_wp2
       (try simp only [Exit.inBlock, Exit.then])
       refine bodyPost_ret (results_none rfl _ _ _) rfl ?_
       exact NodeDone.of ⟨oa, on_, oc, rfl, by rw [HEq.out]; exact H.out.setBad A.out true, Quiet.bad _ _, fun q hq => .inl hq⟩
     · have hm : k.met.getD (p.toNat - 1) false = true := by
        cases hx : k.met.getD (p.toNat - 1) false with
        | true => rfl
        | false => exact absurd ⟨hb, by omega, by omega, hx⟩ HO.out
       have hc := HM.out (p.toNat - 1) (by omega)
       rw [hm] at hc
       have k1z : (p - 1).toNat = p.toNat - 1 := by omega
       have k2z : (0 : Int) ≤ p - 1 := by omega
       have k3z : p - 1 < (s.length : Int) := by omega
       clear hb hm
       go_enter Tryz.func61, Tryz.ntmps61
       go_wp2
       (try simp only [Exit.inBlock, Exit.then])
       refine bodyPost_ret (results_none rfl _ _ _) rfl ?_
       exact NodeDone.of ⟨oa, on_, oc, rfl, by rw [HEq.out]; exact H.out.setBad A.out true, Quiet.bad _ _, fun q hq => .inl hq⟩
 · rw [hb] at c4
   clear hb
   go_enter Tryz.func61, Tryz.ntmps61
   go_wp2
   (try simp only [Exit.inBlock, Exit.then])
   refine bodyPost_ret (results_none rfl _ _ _) rfl ?_
   exact NodeDone.of ⟨oa, on_, oc, rfl, by rw [HEq.out]; exact H.out.setBad A.out true, Quiet.bad _ _, fun q hq => .inl hq⟩
theorem Lf.decodeN_len (b : List UInt8) : (Lf.decodeN b).1.length ≤ 3 ∧ (Lf.decodeN b).2.length ≤ 4 := by
 by_cases h : Lf.decodeE b = 0
 · have h1 := Lf.ok_iff.1 (Lf.enc_decode h).1
   have h2 := h1.few
   have h3 := h1.kids
   refine ⟨h2, ?_⟩
   rcases h3 with h3 | h3
   · rw [Lf.leaf_iff] at h3; omega
   · omega
 · rw [show Lf.decodeN b = ([], []) from if_neg h]
   simp
theorem Walks.setMet {w : World} {B g gm : Nat} {P : Nat → Prop} {pa oa : Option Addr} {pc on_ oc base : Nat} {s : Pgs} {k : Tr.Wk} (h : Walks w g gm P pa pc oa on_ oc base s k) (a : qTj P B g gm base) (q : Nat) (hq : q < s.length) (hm : k.met.getD q false = false) :
 Walks (w.setCell ⟨gm, q, none⟩ (.bool true)) g gm P pa pc oa on_ oc base s { k with met := k.met.set q true } := by
 have hn := qMQ k.met q (by rw [h.len]; exact hq) hm
 refine ⟨h.row.setO (p := ⟨gm, q, none⟩) (fun e => a.ne e.symm) _, rSectors.keep h.pages (fun b hb hl => Below.heap_setCell _ _ _ _ (by have := a.pages b hb; have := a.atM; show b ≠ gm; omega)), ?_, ?_, h.out.setB (p := ⟨gm, q, none⟩) a.gmb _, ?_⟩
 · have := h.met.set q (.bool true)
   rw [show (q5x k.met).set q (.bool true) = q5x (k.met.set q true) by simp [q5x, List.map_set]] at this
   exact this
 · simp only [List.length_set]; exact h.len
 · simp only; have := h.few; omega
namespace Tr
def fault (s : Pgs) (p : Int) (lo hi : Bnd) (j : Nat) : Bool := decide (Lf.decodeE (page s p) ≠ 0) || ((nod s p).1.take j).any fun x => !(above lo x.1 && under hi x.1)
theorem fault_zero (s : Pgs) (p : Int) (lo hi : Bnd) : fault s p lo hi 0 = decide (Lf.decodeE (page s p) ≠ 0) := by unfold fault; simp
theorem fault_succ {s : Pgs} {p : Int} (lo hi : Bnd) {j : Nat} (h : j < (nod s p).1.length) : fault s p lo hi (j + 1) = (fault s p lo hi j || !(above lo (nod s p).1[j].1 && under hi (nod s p).1[j].1)) := by
 unfold fault
 rw [List.take_succ_eq_append_getElem h, List.any_append, List.any_cons, List.any_nil, Bool.or_false, Bool.or_assoc]
theorem fault_all (s : Pgs) (p : Int) (lo hi : Bnd) : fault s p lo hi (nod s p).1.length = !good s p lo hi := by
 unfold fault good within
 rw [List.take_length, Bool.not_and, List.all_eq_not_any_not, Bool.not_not]
 congr 1
 simp
end Tr
theorem IsBnd.parts {w : World} {v : Value} {b : Bnd} (h : IsBnd w v b) : ∃ xa na ca, v = .slice xa na ca ∧ (b = none ∧ na = 0 ∧ ca = 0 ∧ xa = none ∨ ∃ a q, b = some a ∧ na = 1 ∧ ca = 1 ∧ xa = some ⟨q, 0, none⟩) := by
 cases b with
 | none => exact ⟨none, 0, 0, h, .inl ⟨rfl, rfl, rfl, rfl⟩⟩
 | some a => obtain ⟨q, rfl, -⟩ := h; exact ⟨_, 1, 1, rfl, .inr ⟨a, q, rfl, rfl, rfl, rfl⟩⟩
theorem IsBnd.cell {w : World} {q : Nat} {a : UInt64} (h : IsBnd w (.slice (some ⟨q, 0, none⟩) 1 1) (some a)) : w.cell? ⟨q, 0, none⟩ = some (.int .u64 (a.toNat : Int)) := by
 obtain ⟨q', e, hr⟩ := h
 simp only [Value.slice.injEq, Option.some.injEq, Addr.mk.injEq, and_true] at e
 subst e
 exact hr.cell rfl
set_option maxRecDepth 20000 in
theorem node_faulty (s : Pgs) (hs : s.length ≤ 2048) (f : Nat) (hf : f < 16) (w : World) (B g gm : Nat) (P : Nat → Prop) (pa : Option Addr) (pc : Nat) (oa : Option Addr) (on_ oc base : Nat) (k : Tr.Wk) (p : Int) (lv : Int) (lo hi : Bnd) (va vb : Value)
 (hlv : lv = 17 - ((f + 1 : Nat) : Int)) (hA : qTj P B g gm base) (hW : Walks w g gm P pa pc oa on_ oc base s k) (hVa : IsBnd w va lo) (hVb : IsBnd w vb hi) (hFr : ∀ q, va.ownBlock = some q ∨ vb.ownBlock = some q → q ≠ g ∧ q ≠ gm ∧ (Value.slice oa on_ oc).ownBlock ≠ some q) (hbs : base ≤ w.heap.size) (hp0 : -9223372036854775808 ≤ p) (hp1 : p ≤ 9223372036854775807) (ho : Tr.open_ s p k = true) (hg : Tr.good s p lo hi = false):
 Calls Tryz.prog 61 #[.pointer (some ⟨g, 0, none⟩), .int .i64 p, .int .i64 lv, va, vb] w fun e w' => NodeDone s (f + 1) g gm P pa pc oa on_ oc base k p lo hi w e w' := by
 have HG0 : Hid _ := hg
 clear hg
 obtain ⟨hb, p1, p2, hmet⟩ := Tr.open_iff.1 ho
 obtain ⟨q, hq⟩ := Int.eq_ofNat_of_zero_le (show 0 ≤ p - 1 by omega)
 obtain rfl : p = (q : Int) + 1 := by omega
 have HG : Hid (Tr.good s ((q : Int) + 1) lo hi = false) := HG0.out
 have hql : q < s.length := by omega
 have hlen : s.length ≤ 2048 := hs
 rw [show ((q : Int) + 1).toNat - 1 = q by omega] at hmet
 have A : Hid _ := hA
 have HO : Hid _ := ho
 have HS0 : Hid (base ≤ w.heap.size) := hbs
 obtain ⟨xa, na, ca, rfl, hLo⟩ := hVa.parts
 obtain ⟨xb, nb, cb, rfl, hHi⟩ := hVb.parts
 have HLo : Hid _ := hLo
 have HHi : Hid _ := hHi
 have HFr : Hid _ := hFr
 have H : Hid _ := hW
 obtain ⟨c0, c1, c2, c3, c4⟩ := hW.five
 rw [hb] at c4
 have cm : w.cell? ⟨gm, q, none⟩ = some (.bool false) := by
  refine hW.met.cell ?_
  have hq' : q < k.met.length := by rw [hW.len]; exact hql
  rw [← hmet]
  simp [q5x, List.getD, zw3 hq']
 have fm := hW.met.frozen q
 obtain ⟨w1, hw1⟩ : ∃ w1, w.setCell ⟨gm, q, none⟩ (.bool true) = w1 := ⟨_, rfl⟩
 obtain ⟨k1, hk1⟩ : ∃ k1 : Tr.Wk, k1 = { k with met := k.met.set q true } := ⟨_, rfl⟩
 have HK1 : Hid _ := hk1
 have H1 : Hid (Walks w1 g gm P pa pc oa on_ oc base s k1) := by rw [← hw1, hk1]; exact hW.setMet hA q hql hmet
 have Q1 : Hid (Quiet g gm oa on_ oc w w1) := by rw [← hw1]; exact (Kept.refl _ w).setCell (p := ⟨gm, q, none⟩) (fun h => h.2.2.1 rfl) _
 have hz1 : w1.heap.size = w.heap.size := by rw [← hw1]; simp [World.setCell]
 have HZ1 : Hid _ := hz1
 have HVa1 : Hid (IsBnd w1 (.slice xa na ca) lo) := hVa.keep (fun r hr => by rw [← hw1]; exact Below.heap_setCell _ _ _ _ (fun e => (hFr r (.inl hr)).2.1 e))
 have HVb1 : Hid (IsBnd w1 (.slice xb nb cb) hi) := hVb.keep (fun r hr => by rw [← hw1]; exact Below.heap_setCell _ _ _ _ (fun e => (hFr r (.inr hr)).2.1 e))
 obtain ⟨d0, d1, d2, d3, d4⟩ := H1.out.five
 obtain ⟨pb, off, rfl, -, -, hat⟩ := q8X H1.out.pages (by omega)
 obtain ⟨x, m, d, hpg, hml, cp⟩ := hat q hql
 have epg : s[q] = Tr.page s ((q : Int) + 1) := by unfold Tr.page; rw [show ((q : Int) + 1).toNat - 1 = q by omega]; simp [List.getD, zw3 hql]
 rw [epg] at hpg
 obtain ⟨hpB, hpc, hpn, hpm⟩ := q5Q hpg
 have HPB : Hid (IsB w1 x m (Tr.page s ((q : Int) + 1))) := hpB
 have HPc : Hid _ := hpc
 have HPn : Hid _ := hpn
 have HPm : Hid _ := hpm
 have hqz : (q : Int) < (s.length : Int) := by omega
 have hqy : ¬ (q : Int) + 1 > (s.length : Int) := by omega
 have hqx : ¬ (q : Int) + 1 < 1 := by omega
 have hlz : ¬ lv > 16 := by omega
 have hlz0 : 1 ≤ lv := by omega
 have HLv : Hid _ := hlv
 clear hA hW hVa hVb hFr hbs hLo hHi hb hmet hat hpg hml epg hpB hpc hpn hpm hq p1 p2 ho hk1 hz1 hlv
 go_enter Tryz.func61, Tryz.ntmps61
 go_wp2_with fail
 refine (qGQ _ x m d (Tr.page s ((q : Int) + 1)) HPm.out HPc.out HPn.out HPB.out).mono ?_
 rintro e w2 ⟨v, u, rfl, hoI, hoK, b2⟩
 obtain ⟨ia, il, ic, rfl⟩ : ∃ a n c, v = .slice a n c := by obtain ⟨a, c, e, -⟩ := hoI.slice; exact ⟨a, _, c, e⟩
 obtain ⟨ka, kl, kc, rfl⟩ : ∃ a n c, u = .slice a n c := by obtain ⟨a, c, e, -⟩ := hoK.slice; exact ⟨a, _, c, e⟩
 obtain ⟨w3, hw3, V3, b3, z3⟩ := q0q w2 139 [.slice ia il ic, .slice ka kl kc]
 have b13 : Below w1.heap.size w1 w3 := on b2 b3
 have H3 : Hid _ := H1.out.below b13
 have R3 : Hid _ := V3
 have I3 : Hid (rItms.rd w3 (fun b => w1.heap.size ≤ b) [.slice ia il ic] (Tr.nod s ((q : Int) + 1)).1) := Rep.below (hoI.rd (by have := Lf.decodeN_len (Tr.page s ((q : Int) + 1)); show (Lf.decodeN _).1.length ≤ _; omega)) b3
 have K3 : Hid (rKids.rd w3 (fun b => w1.heap.size ≤ b) [.slice ka kl kc] (Tr.nod s ((q : Int) + 1)).2) := Rep.below (hoK.rd (by have := Lf.decodeN_len (Tr.page s ((q : Int) + 1)); show (Lf.decodeN _).2.length ≤ _; omega)) b3
 have Q3 : Hid (Quiet g gm oa on_ oc w w3) := ⟨b13.os.trans Q1.out.os, b13.tape.trans Q1.out.tape, b13.output.trans Q1.out.output, zw1 Q1.out.size b13.size, fun b hb => (b13.block b (by rw [HZ1.out]; exact hb.1)).trans (Q1.out.block b hb)⟩
 have HVa3 : Hid (IsBnd w3 (.slice xa na ca) lo) := HVa1.out.keep (fun r hr => b13.block r (HVa1.out.lt r hr))
 have HVb3 : Hid (IsBnd w3 (.slice xb nb cb) hi) := HVb1.out.keep (fun r hr => b13.block r (HVb1.out.lt r hr))
 have HZ3 : Hid (w.heap.size ≤ w2.heap.size) := by have := b2.size; rw [HZ1.out] at this; exact this
 have hgw : g < w.heap.size := H.out.row.lt
 have hg2 : g ≠ w2.heap.size := by have := HZ3.out; omega
 obtain ⟨E, hE⟩ : ∃ E, E = Lf.decodeE (Tr.page s ((q : Int) + 1)) := ⟨_, rfl⟩
 rw [← hE]
 have HE : Hid (E = Lf.decodeE (Tr.page s ((q : Int) + 1))) := hE
 obtain ⟨e0, e1, e2, e3, e4⟩ := H3.out.five
 have g4 := H3.out.row.frozen 4
 have HIl : Hid ((Tr.nod s ((q : Int) + 1)).1.length = il) := (q0x I3.out).1
 have HKl : Hid ((Tr.nod s ((q : Int) + 1)).2.length = kl) := (q0x K3.out).1
 have hil : il ≤ 3 := by rw [← HIl.out]; exact (Lf.decodeN_len _).1
 have hkl : kl ≤ 4 := by rw [← HKl.out]; exact (Lf.decodeN_len _).2
 have H4 : Hid (Walks (w3.setCell ⟨g, 4, none⟩ (.bool (E != 0))) g gm P (some ⟨pb, off, none⟩) pc oa on_ oc base s { k1 with bad := Tr.fault s ((q : Int) + 1) lo hi 0 }) := by
  rw [Tr.fault_zero, ← HE.out, show decide (E ≠ 0) = (E != 0) by cases h : (E != 0) <;> simp_all]
  exact H3.out.setBad A.out _
 clear hoI hoK b2 b3 b13 V3 z3 hE hw1 c0 c1 c2 c3 c4 cm fm d0 d1 d2 d3 d4 cp
 have BOX : Hid (∀ {wr : World}, Kept (· ≠ g) w3 wr → Row wr w2.heap.size 139 [.slice ia il ic, .slice ka kl kc]) := fun h => R3.out.keep (h.block _ (fun e => hg2 e.symm))
 have ITM : Hid (∀ {wr : World}, Kept (· ≠ g) w3 wr → rItms.rd wr (fun b => w1.heap.size ≤ b) [.slice ia il ic] (Tr.nod s ((q : Int) + 1)).1) := fun h => Rep.kept I3.out h (fun b hb _ => by have := HZ1.out; have := HS0.out; have := A.out.gb; omega)
 have BND : Hid (∀ {wr : World}, Kept (· ≠ g) w3 wr → IsBnd wr (.slice xa na ca) lo ∧ IsBnd wr (.slice xb nb cb) hi) := fun h => ⟨HVa3.out.keep (fun r hr => h.block r (HFr.out r (.inl hr)).1), HVb3.out.keep (fun r hr => h.block r (HFr.out r (.inr hr)).1)⟩
 have K4 : Hid (Kept (· ≠ g) w3 (w3.setCell ⟨g, 4, none⟩ (.bool (E != 0)))) := (Kept.refl _ w3).setCell (p := ⟨g, 4, none⟩) (fun h => h rfl) _
 go_wp2
 clear e0 e1 e2 e3 e4 g4 hw3
 go_loopw [12] (fun i wr => ∃ j : Nat, j ≤ il ∧ i = .int .i64 j ∧ Hid (Walks wr g gm P (some ⟨pb, off, none⟩) pc oa on_ oc base s { k1 with bad := Tr.fault s ((q : Int) + 1) lo hi j }) ∧ Hid (Kept (· ≠ g) w3 wr)) (fun i _ => il - (intOf i).toNat)
 case atStart => exact ⟨0, Nat.zero_le _, rfl, H4, K4⟩
 case round =>
  clear H4 K4
  obtain ⟨j, hj, rfl, HWr, HKr⟩ := hrel
  obtain ⟨e0, e1, e2, e3, e4⟩ := HWr.out.five
  have g4 := HWr.out.row.frozen 4
  obtain ⟨n0, n1⟩ := (BOX.out HKr.out).two
  by_cases hlt : j < il
  · have hjl : j < (Tr.nod s ((q : Int) + 1)).1.length := by rw [HIl.out]; exact hlt
    obtain ⟨g1, off1, rfl, -, -, hat⟩ := q0Z (ITM.out HKr.out) (by omega)
    obtain ⟨i0, i1⟩ := hat j hjl
    have HNx : Hid _ := Tr.fault_succ lo hi hjl
    obtain ⟨Y, hY⟩ : ∃ Y, Y = (Tr.nod s ((q : Int) + 1)).1[j] := ⟨_, rfl⟩
    rw [← hY] at i0 i1 HNx
    clear hat hY
    have hjz : (j : Int) < (il : Int) := by omega
    have HBa : Hid _ := BND.out HKr.out
    cases hbj : Tr.fault s ((q : Int) + 1) lo hi j
    · rw [hbj] at e4
      rcases HLo.out with ⟨h2, rfl, rfl, rfl⟩ | ⟨a, qa, h2, rfl, rfl, rfl⟩
      · have hab : Tr.above lo Y.1 = true := by rw [h2]; rfl
        rcases HHi.out with ⟨h1, rfl, rfl, rfl⟩ | ⟨b, qb, h1, rfl, rfl, rfl⟩
        · have hun : Tr.under hi Y.1 = true := by rw [h1]; rfl
          have HN : Hid (Tr.fault s ((q : Int) + 1) lo hi (j + 1) = false) := by unfold Hid; rw [HNx.out, hbj]; show (false || !(Tr.above lo Y.1 && Tr.under hi Y.1)) = false; rw [hab, hun]; rfl
          have HW5 : Hid (Walks (wr.setCell ⟨g, 4, none⟩ (.bool false)) g gm P (some ⟨pb, off, none⟩) pc oa on_ oc base s { k1 with bad := Tr.fault s ((q : Int) + 1) lo hi (j + 1) }) := by rw [HN.out]; exact HWr.out.setBad A.out false
          have HK5 : Hid (Kept (· ≠ g) w3 (wr.setCell ⟨g, 4, none⟩ (.bool false))) := HKr.out.setCell (p := ⟨g, 4, none⟩) (fun h => h rfl) _
          clear HNx hbj
          go_wp2
          go_roundw
          case rel => exact ⟨j + 1, by omega, by go_num, HW5, HK5⟩
          case measure => simp [intOf]; omega
        · have hcb := (HBa.out.2 : IsBnd wr _ hi)
          rw [h1] at hcb
          have cb := hcb.cell
          clear hcb
          by_cases hge : b.toNat ≤ Y.1.toNat
          · have hun : Tr.under hi Y.1 = false := by rw [h1]; unfold Tr.under; simp; omega
            have hgz : (Y.1.toNat : Int) ≥ (b.toNat : Int) := by omega
            have HN : Hid (Tr.fault s ((q : Int) + 1) lo hi (j + 1) = true) := by unfold Hid; rw [HNx.out, hbj]; show (false || !(Tr.above lo Y.1 && Tr.under hi Y.1)) = true; rw [hab, hun]; rfl
            have HW5 : Hid (Walks (wr.setCell ⟨g, 4, none⟩ (.bool true)) g gm P (some ⟨pb, off, none⟩) pc oa on_ oc base s { k1 with bad := Tr.fault s ((q : Int) + 1) lo hi (j + 1) }) := by rw [HN.out]; exact HWr.out.setBad A.out true
            have HK5 : Hid (Kept (· ≠ g) w3 (wr.setCell ⟨g, 4, none⟩ (.bool true))) := HKr.out.setCell (p := ⟨g, 4, none⟩) (fun h => h rfl) _
            clear HNx hbj
            go_wp2
            go_roundw
            case rel => exact ⟨j + 1, by omega, by go_num, HW5, HK5⟩
            case measure => simp [intOf]; omega
          · have hun : Tr.under hi Y.1 = true := by rw [h1]; unfold Tr.under; simp; omega
            have hgz : ¬ (Y.1.toNat : Int) ≥ (b.toNat : Int) := by omega
            have HN : Hid (Tr.fault s ((q : Int) + 1) lo hi (j + 1) = false) := by unfold Hid; rw [HNx.out, hbj]; show (false || !(Tr.above lo Y.1 && Tr.under hi Y.1)) = false; rw [hab, hun]; rfl
            have HW5 : Hid (Walks (wr.setCell ⟨g, 4, none⟩ (.bool false)) g gm P (some ⟨pb, off, none⟩) pc oa on_ oc base s { k1 with bad := Tr.fault s ((q : Int) + 1) lo hi (j + 1) }) := by rw [HN.out]; exact HWr.out.setBad A.out false
            have HK5 : Hid (Kept (· ≠ g) w3 (wr.setCell ⟨g, 4, none⟩ (.bool false))) := HKr.out.setCell (p := ⟨g, 4, none⟩) (fun h => h rfl) _
            clear HNx hbj
            go_wp2
            go_roundw
            case rel => exact ⟨j + 1, by omega, by go_num, HW5, HK5⟩
            case measure => simp [intOf]; omega
      · have hca := (HBa.out.1 : IsBnd wr _ lo)
        rw [h2] at hca
        have ca := hca.cell
        clear hca
        by_cases hlow : Y.1.toNat < a.toNat
        · have hab : Tr.above lo Y.1 = false := by rw [h2]; unfold Tr.above; simp; omega
          have hlz2 : (Y.1.toNat : Int) < (a.toNat : Int) := by omega
          have HN : Hid (Tr.fault s ((q : Int) + 1) lo hi (j + 1) = true) := by unfold Hid; rw [HNx.out, hbj]; show (false || !(Tr.above lo Y.1 && Tr.under hi Y.1)) = true; rw [hab]; rfl
          have HW5 : Hid (Walks (wr.setCell ⟨g, 4, none⟩ (.bool true)) g gm P (some ⟨pb, off, none⟩) pc oa on_ oc base s { k1 with bad := Tr.fault s ((q : Int) + 1) lo hi (j + 1) }) := by rw [HN.out]; exact HWr.out.setBad A.out true
          have HK5 : Hid (Kept (· ≠ g) w3 (wr.setCell ⟨g, 4, none⟩ (.bool true))) := HKr.out.setCell (p := ⟨g, 4, none⟩) (fun h => h rfl) _
          clear HNx hbj
          go_wp2
          go_roundw
          case rel => exact ⟨j + 1, by omega, by go_num, HW5, HK5⟩
          case measure => simp [intOf]; omega
        · have hab : Tr.above lo Y.1 = true := by rw [h2]; unfold Tr.above; simp; omega
          have hlz2 : ¬ (Y.1.toNat : Int) < (a.toNat : Int) := by omega
          rcases HHi.out with ⟨h1, rfl, rfl, rfl⟩ | ⟨b, qb, h1, rfl, rfl, rfl⟩
          · have hun : Tr.under hi Y.1 = true := by rw [h1]; rfl
            have HN : Hid (Tr.fault s ((q : Int) + 1) lo hi (j + 1) = false) := by unfold Hid; rw [HNx.out, hbj]; show (false || !(Tr.above lo Y.1 && Tr.under hi Y.1)) = false; rw [hab, hun]; rfl
            have HW5 : Hid (Walks (wr.setCell ⟨g, 4, none⟩ (.bool false)) g gm P (some ⟨pb, off, none⟩) pc oa on_ oc base s { k1 with bad := Tr.fault s ((q : Int) + 1) lo hi (j + 1) }) := by rw [HN.out]; exact HWr.out.setBad A.out false
            have HK5 : Hid (Kept (· ≠ g) w3 (wr.setCell ⟨g, 4, none⟩ (.bool false))) := HKr.out.setCell (p := ⟨g, 4, none⟩) (fun h => h rfl) _
            clear HNx hbj
            go_wp2
            go_roundw
            case rel => exact ⟨j + 1, by omega, by go_num, HW5, HK5⟩
            case measure => simp [intOf]; omega
          · have hcb := (HBa.out.2 : IsBnd wr _ hi)
            rw [h1] at hcb
            have cb := hcb.cell
            clear hcb
            by_cases hge : b.toNat ≤ Y.1.toNat
            · have hun : Tr.under hi Y.1 = false := by rw [h1]; unfold Tr.under; simp; omega
              have hgz : (Y.1.toNat : Int) ≥ (b.toNat : Int) := by omega
              have HN : Hid (Tr.fault s ((q : Int) + 1) lo hi (j + 1) = true) := by unfold Hid; rw [HNx.out, hbj]; show (false || !(Tr.above lo Y.1 && Tr.under hi Y.1)) = true; rw [hab, hun]; rfl
              have HW5 : Hid (Walks (wr.setCell ⟨g, 4, none⟩ (.bool true)) g gm P (some ⟨pb, off, none⟩) pc oa on_ oc base s { k1 with bad := Tr.fault s ((q : Int) + 1) lo hi (j + 1) }) := by rw [HN.out]; exact HWr.out.setBad A.out true
              have HK5 : Hid (Kept (· ≠ g) w3 (wr.setCell ⟨g, 4, none⟩ (.bool true))) := HKr.out.setCell (p := ⟨g, 4, none⟩) (fun h => h rfl) _
              clear HNx hbj
              go_wp2
              go_roundw
              case rel => exact ⟨j + 1, by omega, by go_num, HW5, HK5⟩
              case measure => simp [intOf]; omega
            · have hun : Tr.under hi Y.1 = true := by rw [h1]; unfold Tr.under; simp; omega
              have hgz : ¬ (Y.1.toNat : Int) ≥ (b.toNat : Int) := by omega
              have HN : Hid (Tr.fault s ((q : Int) + 1) lo hi (j + 1) = false) := by unfold Hid; rw [HNx.out, hbj]; show (false || !(Tr.above lo Y.1 && Tr.under hi Y.1)) = false; rw [hab, hun]; rfl
              have HW5 : Hid (Walks (wr.setCell ⟨g, 4, none⟩ (.bool false)) g gm P (some ⟨pb, off, none⟩) pc oa on_ oc base s { k1 with bad := Tr.fault s ((q : Int) + 1) lo hi (j + 1) }) := by rw [HN.out]; exact HWr.out.setBad A.out false
              have HK5 : Hid (Kept (· ≠ g) w3 (wr.setCell ⟨g, 4, none⟩ (.bool false))) := HKr.out.setCell (p := ⟨g, 4, none⟩) (fun h => h rfl) _
              clear HNx hbj
              go_wp2
              go_roundw
              case rel => exact ⟨j + 1, by omega, by go_num, HW5, HK5⟩
              case measure => simp [intOf]; omega
    · rw [hbj] at e4
      have HN : Hid (Tr.fault s ((q : Int) + 1) lo hi (j + 1) = true) := by unfold Hid; rw [HNx.out, hbj]; rfl
      have HW5 : Hid (Walks (wr.setCell ⟨g, 4, none⟩ (.bool true)) g gm P (some ⟨pb, off, none⟩) pc oa on_ oc base s { k1 with bad := Tr.fault s ((q : Int) + 1) lo hi (j + 1) }) := by rw [HN.out]; exact HWr.out.setBad A.out true
      have HK5 : Hid (Kept (· ≠ g) w3 (wr.setCell ⟨g, 4, none⟩ (.bool true))) := HKr.out.setCell (p := ⟨g, 4, none⟩) (fun h => h rfl) _
      clear HNx hbj
      go_wp2
      go_roundw
      case rel => exact ⟨j + 1, by omega, by go_num, HW5, HK5⟩
      case measure => simp [intOf]; omega
  · obtain rfl : il = j := by omega
    have HFa : Hid (Tr.fault s ((q : Int) + 1) lo hi il = !Tr.good s ((q : Int) + 1) lo hi) := by have h := Tr.fault_all s ((q : Int) + 1) lo hi; rw [HIl.out] at h; exact h
    rw [HFa.out] at HWr e4
    rw [HG.out] at HWr e4
    have HEq : Hid (Tr.node s (f + 1) ((q : Int) + 1) lo hi k = { k1 with bad := true }) := by
     unfold Hid Tr.node
     rw [if_pos HO.out, HG.out, HK1.out, show ((q : Int) + 1).toNat - 1 = q by omega]
     rfl
    go_wp2
    (try simp only [Exit.inBlock, Exit.then])
    refine bodyPost_ret (results_none rfl _ _ _) rfl ?_
    exact NodeDone.of ⟨oa, on_, oc, rfl, by rw [HEq.out]; exact HWr.out, ⟨HKr.out.os.trans Q3.out.os, HKr.out.tape.trans Q3.out.tape, HKr.out.output.trans Q3.out.output, zw1 Q3.out.size HKr.out.size, fun b hb => (HKr.out.block b hb.2.1).trans (Q3.out.block b hb)⟩, fun r hr => .inl hr⟩
theorem q8z (x : Itm) (l : List Itm) : q0j (x :: l) = .int .u64 (x.1.toNat : Int) :: .int .u64 (x.2.toNat : Int) :: q0j l := rfl
theorem qFJ : ∀ n : Nat, q0j (List.replicate n (0, 0)) = List.replicate (n * 2) (.int .u64 0)
 | 0 => rfl
 | n + 1 => by rw [List.replicate_succ, q8z, qFJ n, Nat.succ_mul, List.replicate_succ, List.replicate_succ]; rfl
theorem qSZ (n : Nat) : (madeCells #[.int .u64 0, .int .u64 0] (n * 2)).toList = q0j (List.replicate n (0, 0)) := by
 rw [qFJ]
 apply List.ext_getElem?
 intro j
 by_cases hj : j < n * 2
 · have h2 : j % 2 = 0 ∨ j % 2 = 1 := by omega
   rcases h2 with h | h <;> simp [madeCells, hj, h]
 · simp [madeCells, hj]
theorem q8q : ∀ (l : List Itm) (k : Nat) (h : k < l.length) (x : UInt64), (q0j l).set (k * 2) (.int .u64 (x.toNat : Int)) = q0j (l.set k (x, l[k].2))
 | y :: l, 0, _, x => rfl
 | y :: l, k + 1, h, x => by
   have ih := q8q l k (by simpa using h) x
   rw [q8z, show (k + 1) * 2 = k * 2 + 1 + 1 by omega, List.set_cons_succ, List.set_cons_succ, ih]
   rfl
theorem qCj : ∀ (l : List Itm) (k : Nat) (h : k < l.length) (x : UInt64), (q0j l).set (k * 2 + 1) (.int .u64 (x.toNat : Int)) = q0j (l.set k (l[k].1, x))
 | y :: l, 0, _, x => rfl
 | y :: l, k + 1, h, x => by
   have ih := qCj l k (by simpa using h) x
   rw [q8z, show (k + 1) * 2 + 1 = k * 2 + 1 + 1 + 1 by omega, List.set_cons_succ, List.set_cons_succ, ih]
   rfl
theorem qDX {l : List Itm} {k : Nat} (h : k < l.length) : (q0j l)[k * 2]? = some (.int .u64 (l[k].1.toNat : Int)) ∧ (q0j l)[k * 2 + 1]? = some (.int .u64 (l[k].2.toNat : Int)) := by
 induction l generalizing k with
 | nil => simp at h
 | cons y l ih =>
   cases k with
   | zero => exact ⟨rfl, rfl⟩
   | succ k =>
     obtain ⟨h1, h2⟩ := ih (k := k) (by simpa using h)
     rw [q8z, show (k + 1) * 2 = k * 2 + 1 + 1 by omega]
     exact ⟨by rw [List.getElem?_cons_succ, List.getElem?_cons_succ]; exact h1, by rw [show k * 2 + 1 + 1 + 1 = (k * 2 + 1) + 1 + 1 by omega, List.getElem?_cons_succ, List.getElem?_cons_succ]; exact h2⟩
namespace Lf
def itemsK (b : List UInt8) (k : Nat) : List Itm := (List.range (cnt b)).map fun i => (if i < k then keyR b i else 0, 0)
def itemsV (b : List UInt8) (k : Nat) : List Itm := (List.range (cnt b)).map fun i => (keyR b i, if i < k then valR b i else 0)
def kidsR (b : List UInt8) (k : Nat) : List Int := (List.range k).map (kidR b)
theorem itemsK_len (b : List UInt8) (k : Nat) : (itemsK b k).length = cnt b := by simp [itemsK]
theorem itemsV_len (b : List UInt8) (k : Nat) : (itemsV b k).length = cnt b := by simp [itemsV]
theorem itemsK_zero (b : List UInt8) : itemsK b 0 = List.replicate (cnt b) (0, 0) := by
 refine List.ext_getElem (by simp [itemsK]) fun i h1 h2 => ?_
 simp [itemsK]
theorem itemsV_zero (b : List UInt8) : itemsV b 0 = itemsK b (cnt b) := by
 refine List.ext_getElem (by simp [itemsK, itemsV]) fun i h1 h2 => ?_
 have : i < cnt b := by simpa [itemsV] using h1
 simp [itemsK, itemsV, this]
theorem itemsK_next {b : List UInt8} {k : Nat} (h : k < cnt b) : (itemsK b k).set k (keyR b k, ((itemsK b k)[k]'(by rw [itemsK_len]; exact h)).2) = itemsK b (k + 1) := by
 refine List.ext_getElem (by simp [itemsK]) fun i h1 h2 => ?_
 rw [List.getElem_set]
 by_cases e : k = i
 · subst e; simp [itemsK]
 · rw [if_neg e]
   simp only [itemsK, List.getElem_map, List.getElem_range]
   by_cases e2 : i < k
   · rw [if_pos e2, if_pos (by omega)]
   · rw [if_neg e2, if_neg (by omega)]
theorem itemsV_next {b : List UInt8} {k : Nat} (h : k < cnt b) : (itemsV b k).set k (((itemsV b k)[k]'(by rw [itemsV_len]; exact h)).1, valR b k) = itemsV b (k + 1) := by
 refine List.ext_getElem (by simp [itemsV]) fun i h1 h2 => ?_
 rw [List.getElem_set]
 by_cases e : k = i
 · subst e; simp [itemsV]
 · rw [if_neg e]
   simp only [itemsV, List.getElem_map, List.getElem_range]
   by_cases e2 : i < k
   · rw [if_pos e2, if_pos (by omega)]
   · rw [if_neg e2, if_neg (by omega)]
theorem itemsV_all {b : List UInt8} (h : b.getD 0 0 = 1) : itemsV b (cnt b) = readI b := by
 unfold itemsV readI
 refine List.map_congr_left fun i hi => ?_
 rw [if_pos (List.mem_range.1 hi), if_pos h]
theorem itemsK_all {b : List UInt8} (h : b.getD 0 0 = 2) : itemsK b (cnt b) = readI b := by
 unfold itemsK readI
 refine List.map_congr_left fun i hi => ?_
 rw [if_pos (List.mem_range.1 hi), if_neg (by rw [h]; decide)]
theorem kidsR_next (b : List UInt8) (k : Nat) : kidsR b (k + 1) = kidsR b k ++ [kidR b k] := by simp [kidsR, List.range_succ]
theorem readK_leaf {b : List UInt8} (h : b.getD 0 0 = 1) : readK b = [] := by unfold readK; rw [if_neg (by rw [h]; decide)]
theorem readK_kids {b : List UInt8} (h : b.getD 0 0 = 2) : readK b = kidsR b (cnt b + 1) := by unfold readK kidsR; rw [if_pos h]
theorem num_one (x : UInt8) : Oct.num [x] = x.toNat := by simp [Oct.num]
theorem getN_one {b : List UInt8} {p : Nat} (h : p + 1 ≤ b.length) : getN b p 1 = (b.getD p 0).toNat := by
 rw [qQZ (by decide) (by decide) h]
 have e : Oct.cut b p 1 = [b.getD p 0] := by
  unfold Oct.cut
  rw [List.drop_eq_getElem_cons (show p < b.length by omega), show b.getD p 0 = b[p]'(by omega) by simp [List.getD, zw3 (show p < b.length by omega)], List.take_succ_cons, List.take_zero]
 rw [e, num_one]
end Lf
theorem make_itms (w : World) {ops : Array Oper} {rest : List Oper} {o : Oper} {a : Go.Act} {Q : Exit → Go.Act → World → Prop}
 (hg : o.guard = none) (l c : Operand) (hop : o.op = Op.makeSlice 36 l c)
 (n : Nat) (C : Int) (hC : C = (n : Int)) (hl : a.eval l = .int .i64 C) (hc : a.eval c = .int .i64 C) (hn : n ≤ 1000000)
 (hK : ∀ w', Hid (Row w' w.heap.size 45 (q0j (List.replicate n (0, 0)))) → Below w.heap.size w w' → w'.heap.size = w.heap.size + 1 → wpList Tryz.prog ops Q rest (a.put o.dst (.slice (some ⟨w.heap.size, 0, none⟩) n n)) w') :
 wpList Tryz.prog ops Q (o :: rest) a w := by
 subst hC
 obtain ⟨i, hi, hz0, hz1, hz2⟩ := info_parts (show (Tryz.prog.info? 45).map (fun i => (i.zero, i.size, i.bytes)) = some (some (.agg #[.int .u64 0, .int .u64 0]), 2, 16) by kernel_rfl)
 refine wpList_plain hg fun K hK' => ?_
 have hr := run_make (P := Tryz.prog) w 36 45 i (.agg #[.int .u64 0, .int .u64 0]) Tryz.underlying36 hi hz0 .i64 .i64 n n (by omega) (Int.le_refl _) (by rw [hz2]; omega) (by omega)
 simp only [Int.toNat_natCast, hz1] at hr
 unfold Oper.wp
 simp only [execOp, hop, hl, hc, hr, Result.andThen, Sem.run_bind, Sem.run_pure]
 have e : (madeCells (Value.agg #[.int .u64 0, .int .u64 0]).cells (n * 2)) = (q0j (List.replicate n (0, 0))).toArray := by
  rw [← qSZ, Array.toArray_toList]; rfl
 rw [e]
 exact hK' _ _ (hK _ (q1Z w _ _) ((Below.refl _ _).alloc (zw0 _) _) (by simp))
structure Reads (gA gB xb xo cap : Nat) (b : List UInt8) (w : World) (p : Nat) : Prop where
 spot : Row w gA 3 [.int .i64 (p : Int)]
 box : Row w gB 53 [.slice (some ⟨xb, xo, none⟩) 60 cap]
 oct : IsB w (some ⟨xb, xo, none⟩) 60 b
theorem IsB.keepB {w w' : World} {xb xo n : Nat} {l : List UInt8} (h : IsB w (some ⟨xb, xo, none⟩) n l) (hb : w'.heap[xb]? = w.heap[xb]?) : IsB w' (some ⟨xb, xo, none⟩) n l := by
 refine ⟨h.1, h.2.1, fun x hx j hj => ?_⟩
 have hc := h.2.2 x hx j hj
 simp only [Option.some.injEq] at hx
 subst hx
 rw [Addr.add_lit] at hc ⊢
 rw [World.cell?_of_block (w := w) (a := ⟨xb, xo + j, none⟩) hb]
 exact hc
theorem IsB.lt {w : World} {xb xo : Nat} {l : List UInt8} (h : IsB w (some ⟨xb, xo, none⟩) 60 l) : xb < w.heap.size := by
 have hl := h.1
 have := h.2.2 _ rfl 0 (by omega)
 rw [Addr.add_lit] at this
 exact World.block_lt_of_cell? _ _ this
theorem Reads.keep {gA gB xb xo cap : Nat} {b : List UInt8} {w w' : World} {p : Nat} (h : Reads gA gB xb xo cap b w p) (k : ∀ x, x = gA ∨ x = gB ∨ x = xb → w'.heap[x]? = w.heap[x]?) : Reads gA gB xb xo cap b w' p :=
 ⟨h.spot.keep (k gA (.inl rfl)), h.box.keep (k gB (.inr (.inl rfl))), h.oct.keepB (k xb (.inr (.inr rfl)))⟩
theorem Reads.below {gA gB xb xo cap : Nat} {b : List UInt8} {w w' : World} {p : Nat} (h : Reads gA gB xb xo cap b w p) (k : Below w.heap.size w w') : Reads gA gB xb xo cap b w' p :=
 ⟨h.spot.below k, h.box.below k, h.oct.below k⟩
theorem qCJ (gA gB xb xo cap : Nat) (b : List UInt8) (w : World) (p : Nat) (hab : gA ≠ gB) (hax : gA ≠ xb) (h : Reads gA gB xb xo cap b w p) (s : Nat) (S : Int) (hS : S = (s : Int)) (h2 : s ≤ 8) (hp : p ≤ 100000) :
 Calls Tryz.prog 138 #[.int .i64 S, .pointer (some ⟨gB, 0, none⟩), .pointer (some ⟨gA, 0, none⟩)] w fun e w' => e = .returned (.int .u64 (Lf.getN b p s : Nat)) ∧ Reads gA gB xb xo cap b w' (p + s) ∧ Kept (fun x => x < w.heap.size ∧ x ≠ gA) w w' := by
 subst hS
 have HR : Hid _ := h
 have q0 := h.spot.cell (j := 0) rfl
 have q1 := h.box.cell (j := 0) rfl
 clear h
 obtain ⟨G, hG⟩ : ∃ G, G = Lf.getN b p s := ⟨_, rfl⟩
 rw [← hG]
 have HG : Hid (Oct.getV b (p : Int) (s : Int) = G) := hG.symm
 clear hG
 go_enter Tryz.func138, Tryz.ntmps138
 go_wp2_with fail
 refine (get_u w _ 60 cap b (p : Int) (s : Int) (by omega) (by decide) HR.out.oct).mono ?_
 rintro e w1 ⟨rfl, b1⟩
 have HR1 : Hid _ := HR.out.below b1
 have HB : Hid _ := b1
 have HL : Hid (gA < w.heap.size ∧ gB < w.heap.size ∧ xb < w.heap.size) := ⟨HR.out.spot.lt, HR.out.box.lt, HR.out.oct.lt⟩
 clear q0 q1 b1
 have q0 := HR1.out.spot.cell (j := 0) rfl
 have q2 := HR1.out.spot.frozen 0
 have q1 := HR1.out.box.cell (j := 0) rfl
 rw [HG.out]
 obtain ⟨E, hE⟩ : ∃ E, E = Oct.getE b (p : Int) (s : Int) := ⟨_, rfl⟩
 rw [← hE]
 clear hE
 go_wp2
 go_ret
 refine ⟨rfl, ⟨?_, ?_, ?_⟩, ?_⟩
 · have := HR1.out.spot.set 0 (.int .i64 ((p + s : Nat) : Int))
   simpa using this
 · exact HR1.out.box.setO (p := ⟨gA, 0, none⟩) hab _
 · exact HR1.out.oct.keepB (Below.heap_setCell _ _ _ _ (fun e => hax e.symm))
 · exact ⟨HB.out.os, HB.out.tape, HB.out.output, by have := HB.out.size; simpa [World.setCell] using this, fun x hx => (Below.heap_setCell _ _ _ _ (fun e => hx.2 e)).trans (HB.out.block x hx.1)⟩
theorem q2q {B gA : Nat} {w0 w w' : World} (h : Below B w0 w) (k : Kept (fun b => b < w.heap.size ∧ b ≠ gA) w w') (hB : B ≤ w.heap.size) (ha : B ≤ gA) : Below B w0 w' :=
 h.trans ⟨k.os, k.tape, k.output, k.size, fun b hb => k.block b ⟨by omega, by omega⟩⟩
theorem Row.kept1 {w w' : World} {g gA : Nat} {t : TypeId} {xs : List Value} (h : Row w g t xs) (k : Kept (fun b => b < w.heap.size ∧ b ≠ gA) w w') (hne : g ≠ gA) : Row w' g t xs := h.keep (k.block g ⟨h.lt, hne⟩)
theorem st_retv {Pr : Program} {fn : Func} {p q : Tmp} {ty t : TypeId} {tmps : Array Value} {w w2 : World} {b : Nat} {d : TypeDesc} {x0 x1 : Value} (V : Row w2 b t [x0, x1]) (bel : Below w.heap.size w w2) (hb : w.heap.size ≤ b)
 (u0 u1 v : Value) (h : fn.results = #[.cell p ty, .tmp q]) (hp : tmps.getD p undef = .pointer (some ⟨b, 0, none⟩)) (hq : tmps.getD q undef = v)
 (hu : Pr.underlying ty = some d) (hd : d.isRow = true) (hi : (Pr.info? ty).map (·.size) = some 2) {R : Ending → World → Prop}
 (hR : ∀ w', Kept (· ≠ b) w2 w' → Below w.heap.size w w' → R (.returned (.tuple #[.agg #[u0, u1], v])) w') :
 bodyPost Pr fn R .ret { tmps := tmps, defers := [] } ((w2.setCell ⟨b, 0, none⟩ u0).setCell ⟨b, 1, none⟩ u1) := by
 obtain ⟨w', hw, V', K'⟩ := V.whole2 u0 u1
 rw [hw]
 have hr := qDj (Pr := Pr) (fn := fn) h hp V' hu hd hi
 rw [hq] at hr
 exact bodyPost_ret hr rfl (hR w' K' (Kept.belowOf bel K' hb))
theorem equal_u (w : World) (a a' : Option Addr) (n c n' c' : Nat) (l m : List UInt8) (hL : IsB w a n l) (hM : IsB w a' n' m) (r : Bool) (hr : (l == m) = r) :
 Calls Tryz.prog 124 #[.slice a n c, .slice a' n' c'] w fun e w' => e = .returned (.bool r) ∧ w = w' := by
 have h1 := q4X w a n c l hL
 have h2 := q4X w a' n' c' m hM
 clear hL hM
 go_enter Tryz.func124, Tryz.ntmps124
 go_wp2
 go_ret
 exact ⟨by rw [← hr]; rfl, rfl⟩
theorem Lf.keyR_nat (b : List UInt8) (k : Nat) : (Lf.getN b (4 + 8 * k) 8 : Nat) = (Lf.keyR b k).toNat := by
 unfold Lf.keyR
 rw [UInt64.toNat_ofNat', Nat.mod_eq_of_lt (Lf.getN_lt b _ 8 (by decide) (by decide))]
theorem Lf.valR_nat (b : List UInt8) (k m : Nat) (hm : Lf.cnt b = m) : (Lf.getN b (4 + 8 * m + 8 * k) 8 : Nat) = (Lf.valR b k).toNat := by
 unfold Lf.valR
 rw [hm, UInt64.toNat_ofNat', Nat.mod_eq_of_lt (Lf.getN_lt b _ 8 (by decide) (by decide))]
theorem OwnI.ofRow {w : World} {g base m : Nat} {l : List Itm} (h : Row w g 45 (q0j l)) (hl : l.length = m) (hb : base ≤ g) (hm : m ≤ 1000000) : OwnI 45 w base (.slice (some ⟨g, 0, none⟩) m m) l := by
 subst hl
 exact ⟨⟨q0X l, .inr ⟨g, l.length, _, rfl, hb, h.eq, zw0 _, by unfold maxLen; omega, by simp [q0X], by simp [← q0X]⟩⟩⟩
theorem read_no (w : World) (xb xo cap : Nat) (b : List UInt8) (hB : IsB w (some ⟨xb, xo, none⟩) 60 b) (hk : ¬ (b.getD 0 0 = 1 ∨ b.getD 0 0 = 2)) :
 Calls Tryz.prog 123 #[.slice (some ⟨xb, xo, none⟩) 60 cap] w fun e w' => e = .returned (.tuple #[.agg #[.slice none 0 0, .slice none 0 0], .bool false]) ∧ Below w.heap.size w w' := by
 have HKd : Hid _ := hk
 clear hk
 have HL : Hid (b.length = 60) := hB.1
 have hxb : xb < w.heap.size := hB.lt
 obtain ⟨w0, hw0, V0, b0, z0⟩ := q0q w 53 [.slice (some ⟨xb, xo, none⟩) 60 cap]
 obtain ⟨w1, hw1, V1, b1, z1⟩ := q0q w0 63 [.slice none 0 0, .slice none 0 0]
 rw [z0] at V1 z1
 obtain ⟨w2, hw2, V2, b2, z2⟩ := q0q w1 3 [.int .i64 0]
 rw [z1] at V2 z2
 have f2 := V2.frozen 0
 have c2 := V2.cell (j := 0) rfl
 obtain ⟨w3, hw3⟩ : ∃ w3, w2.setCell ⟨w.heap.size + 1 + 1, 0, none⟩ (.int .i64 0) = w3 := ⟨_, rfl⟩
 have HRd : Hid (Reads (w.heap.size + 1 + 1) w.heap.size xb xo cap b w3 (0)) := by
  rw [← hw3]
  exact ⟨V2.set 0 (.int .i64 0), ((V0.below b1).below b2).setO (p := ⟨w.heap.size + 1 + 1, 0, none⟩) (by show w.heap.size + 1 + 1 ≠ _; omega) _, (((hB.below b0).below b1).below b2).keepB (Below.heap_setCell _ _ _ _ (by show xb ≠ w.heap.size + 1 + 1; omega))⟩
 have HRes : Hid (Row w3 (w.heap.size + 1) 63 [.slice none 0 0, .slice none 0 0]) := by
  rw [← hw3]
  exact (V1.below b2).setO (p := ⟨w.heap.size + 1 + 1, 0, none⟩) (by show w.heap.size + 1 + 1 ≠ _; omega) _
 have B3 : Hid (Below w.heap.size w w3) := by
  rw [← hw3]
  exact (on (on b0 b1) b2).setCell (p := ⟨w.heap.size + 1 + 1, 0, none⟩) (by show w.heap.size ≤ w.heap.size + 1 + 1; omega) _
 clear V0 V1 V2 b0 b1 b2 z2 hB
 go_enter Tryz.func123, Tryz.ntmps123
 go_wp2_with fail
 refine (qCJ _ _ xb xo cap b _ 0 (by omega) (by omega) HRd.out 1 _ rfl (by decide) (by decide)).mono ?_
 rintro e w4 ⟨rfl, rd4, k4⟩
 rw [Lf.getN_one (p := 0) (by rw [HL.out]; decide)]
 have RD4 : Hid _ := rd4
 have R4 : Hid (Row w4 (w.heap.size + 1) 63 [.slice none 0 0, .slice none 0 0]) := HRes.out.kept1 k4 (by omega)
 have B4 : Hid (Below w.heap.size w w4) := q2q B3.out k4 B3.out.size (by omega)
 clear rd4 k4 f2 c2 hw0 hw1 hw2 hw3 z0 z1 HRd HRes B3
 obtain ⟨X, hX⟩ : ∃ X, X = b.getD 0 0 := ⟨_, rfl⟩
 rw [← hX] at HKd ⊢
 have k1 : ((X.toNat : Int) != 1) = true := u8_no (q := 1) (by decide) (fun e => HKd.out (.inl e))
 have k2 : ((X.toNat : Int) != 2) = true := u8_no (q := 2) (by decide) (fun e => HKd.out (.inr e))
 clear hX
 obtain ⟨z0, z1⟩ := R4.out.two
 have f0 := R4.out.frozen 0
 have f1 := R4.out.frozen 1
 go_wp2
 exact st_retv R4.out B4.out (by omega) _ _ _ rfl rfl rfl Tryz.underlying63 rfl (by kernel_rfl) (fun w' _ b' => ⟨rfl, b'⟩)
set_option maxRecDepth 20000 in
theorem read_leaf (w : World) (xb xo cap : Nat) (b : List UInt8) (hB : IsB w (some ⟨xb, xo, none⟩) 60 b) (hk : b.getD 0 0 = 1) :
 Calls Tryz.prog 123 #[.slice (some ⟨xb, xo, none⟩) 60 cap] w fun e w' => ∃ v v', e = .returned (.tuple #[.agg #[v, v'], .bool true]) ∧ OwnI 45 w' w.heap.size v (Lf.readN b).1 ∧ OwnK 3 w' w.heap.size v' (Lf.readN b).2 ∧ Below w.heap.size w w' := by
 have HKd : Hid (b.getD 0 0 = 1) := hk
 clear hk
 have HL : Hid (b.length = 60) := hB.1
 have hxb : xb < w.heap.size := hB.lt
 obtain ⟨w0, hw0, V0, b0, z0⟩ := q0q w 53 [.slice (some ⟨xb, xo, none⟩) 60 cap]
 obtain ⟨w1, hw1, V1, b1, z1⟩ := q0q w0 63 [.slice none 0 0, .slice none 0 0]
 rw [z0] at V1 z1
 obtain ⟨w2, hw2, V2, b2, z2⟩ := q0q w1 3 [.int .i64 0]
 rw [z1] at V2 z2
 have f2 := V2.frozen 0
 have c2 := V2.cell (j := 0) rfl
 obtain ⟨w3, hw3⟩ : ∃ w3, w2.setCell ⟨w.heap.size + 1 + 1, 0, none⟩ (.int .i64 0) = w3 := ⟨_, rfl⟩
 have HRd : Hid (Reads (w.heap.size + 1 + 1) w.heap.size xb xo cap b w3 (0)) := by
  rw [← hw3]
  exact ⟨V2.set 0 (.int .i64 0), ((V0.below b1).below b2).setO (p := ⟨w.heap.size + 1 + 1, 0, none⟩) (by show w.heap.size + 1 + 1 ≠ _; omega) _, (((hB.below b0).below b1).below b2).keepB (Below.heap_setCell _ _ _ _ (by show xb ≠ w.heap.size + 1 + 1; omega))⟩
 have HRes : Hid (Row w3 (w.heap.size + 1) 63 [.slice none 0 0, .slice none 0 0]) := by
  rw [← hw3]
  exact (V1.below b2).setO (p := ⟨w.heap.size + 1 + 1, 0, none⟩) (by show w.heap.size + 1 + 1 ≠ _; omega) _
 have B3 : Hid (Below w.heap.size w w3) := by
  rw [← hw3]
  exact (on (on b0 b1) b2).setCell (p := ⟨w.heap.size + 1 + 1, 0, none⟩) (by show w.heap.size ≤ w.heap.size + 1 + 1; omega) _
 clear V0 V1 V2 b0 b1 b2 z2 hB
 go_enter Tryz.func123, Tryz.ntmps123
 go_wp2_with fail
 refine (qCJ _ _ xb xo cap b _ 0 (by omega) (by omega) HRd.out 1 _ rfl (by decide) (by decide)).mono ?_
 rintro e w4 ⟨rfl, rd4, k4⟩
 rw [Lf.getN_one (p := 0) (by rw [HL.out]; decide)]
 have RD4 : Hid _ := rd4
 have R4 : Hid (Row w4 (w.heap.size + 1) 63 [.slice none 0 0, .slice none 0 0]) := HRes.out.kept1 k4 (by omega)
 have B4 : Hid (Below w.heap.size w w4) := q2q B3.out k4 B3.out.size (by omega)
 clear rd4 k4 f2 c2 hw0 hw1 hw2 hw3 z0 z1 HRd HRes B3
 rw [show ((b.getD 0 0).toNat : Int) = 1 by rw [HKd.out]; rfl]
 go_wp2_with fail
 refine (qCJ _ _ xb xo cap b _ 1 (by omega) (by omega) RD4.out 1 _ rfl (by decide) (by decide)).mono ?_
 rintro e w5 ⟨rfl, rd5, k5⟩
 rw [Lf.getN_one (p := 1) (by rw [HL.out]; decide)]
 obtain ⟨m, hm⟩ : ∃ m, m = Lf.cnt b := ⟨_, rfl⟩
 rw [show (b.getD 1 0).toNat = m from hm.symm]
 have HM : Hid (Lf.cnt b = m) := hm.symm
 have hm1 : m ≤ 255 := by have := Lf.cnt_lt b; omega
 have RD5 : Hid _ := rd5
 have R5 : Hid (Row w5 (w.heap.size + 1) 63 [.slice none 0 0, .slice none 0 0]) := R4.out.kept1 k5 (by omega)
 have B5 : Hid (Below w.heap.size w w5) := q2q B4.out k5 B4.out.size (by omega)
 clear rd5 k5 hm RD4 R4 B4
 go_wp2_with fail
 refine (qCJ _ _ xb xo cap b _ 2 (by omega) (by omega) RD5.out 2 _ rfl (by decide) (by decide)).mono ?_
 rintro e w6 ⟨rfl, rd6, k6⟩
 have RD6 : Hid _ := rd6
 have R6 : Hid (Row w6 (w.heap.size + 1) 63 [.slice none 0 0, .slice none 0 0]) := R5.out.kept1 k6 (by omega)
 have B6 : Hid (Below w.heap.size w w6) := q2q B5.out k6 B5.out.size (by omega)
 have hg6 : w.heap.size + 1 + 1 < w6.heap.size := RD6.out.spot.lt
 clear rd6 k6 RD5 R5 B5
 obtain ⟨GN2, hGN2⟩ : ∃ GN2, GN2 = Lf.getN b 2 2 := ⟨_, rfl⟩
 rw [← hGN2]
 clear hGN2
 go_wp2_with (at_make; refine make_itms _ rfl _ _ rfl m _ rfl rfl rfl (by omega) ?_
              intro w7 HI7 b7 z7
              obtain ⟨w8, hw8, V8, b8, z8⟩ := q0q w7 63 [.slice (some ⟨w6.heap.size, 0, none⟩) m m, .slice none 0 0]
              rw [z7] at V8 z8
              have f8 := V8.frozen 1
              have c8 := V8.cell (j := 1) rfl
              obtain ⟨w9, hw9⟩ : ∃ w9, w8.setCell ⟨w6.heap.size + 1, 1, none⟩ (.slice none 0 0) = w9 := ⟨_, rfl⟩
              have N9 : Hid (Row w9 (w6.heap.size + 1) 63 [.slice (some ⟨w6.heap.size, 0, none⟩) m m, .slice none 0 0]) := (by rw [← hw9]; exact V8.set 1 (.slice none 0 0))
              have I9 : Hid (Row w9 w6.heap.size 45 (q0j (Lf.itemsK b 0))) := (by rw [← hw9, Lf.itemsK_zero, HM.out]; exact (HI7.out.below b8).setO (p := ⟨w6.heap.size + 1, 1, none⟩) (by show w6.heap.size + 1 ≠ _; omega) _)
              have R9 : Hid (Row w9 (w.heap.size + 1) 63 [.slice none 0 0, .slice none 0 0]) := (by rw [← hw9]; exact ((R6.out.below b7).below b8).setO (p := ⟨w6.heap.size + 1, 1, none⟩) (by show w6.heap.size + 1 ≠ _; omega) _)
              have RD9 : Hid (Reads (w.heap.size + 1 + 1) w.heap.size xb xo cap b w9 (4 + 8 * 0)) := (by rw [← hw9]; exact ((RD6.out.below b7).below b8).keep (fun x hx => Below.heap_setCell _ _ _ _ (by show x ≠ w6.heap.size + 1; omega)))
              have B9 : Hid (Below w.heap.size w w9) := (by rw [← hw9]; exact (on (on B6.out b7) b8).setCell (p := ⟨w6.heap.size + 1, 1, none⟩) (by show w.heap.size ≤ w6.heap.size + 1; omega) _)
              obtain ⟨t0, t1⟩ := N9.out.two
              clear HI7 b7 V8 b8 z8)
 clear t0 t1 f8 c8 hw8 hw9 z7
 go_loopw [32] (fun i wr => ∃ k : Nat, k ≤ m ∧ i = .int .i64 k ∧ Hid (Reads (w.heap.size + 1 + 1) w.heap.size xb xo cap b wr (4 + 8 * k)) ∧ Hid (Row wr w6.heap.size 45 (q0j (Lf.itemsK b k))) ∧ Hid (Row wr (w6.heap.size + 1) 63 [.slice (some ⟨w6.heap.size, 0, none⟩) m m, .slice none 0 0]) ∧ Hid (Row wr (w.heap.size + 1) 63 [.slice none 0 0, .slice none 0 0]) ∧ Below w.heap.size w wr) (fun i _ => m - (intOf i).toNat)
 case atStart => exact ⟨0, Nat.zero_le _, rfl, RD9, I9, N9, R9, B9.out⟩
 case round =>
  obtain ⟨k, hk, rfl, HRd, HI, HN, HR, bel⟩ := hrel
  by_cases hlt : k < m
  · have HKl : Hid (k < Lf.cnt b) := by unfold Hid; rw [HM.out]; exact hlt
    have hkz : (k : Int) < (m : Int) := by omega
    have BR : Hid _ := bel
    clear bel
    go_wp2_with fail
    refine wp_region_held_drew (S := (fun w' : World => w'.cell? ⟨w6.heap.size + 1, 0, none⟩ = some (.slice (some ⟨w6.heap.size, 0, none⟩) m m))) (by kernel_rfl) ((HN.out.keep rfl : Row wr.drew _ _ _).two.1) (fun hH => ?_)
    refine tkM 0 _ rfl rfl ?_; simp only [sz, ss]
    refine tkM 1 _ rfl rfl ?_; simp only [sz, ss]
    refine tkM 2 _ rfl rfl ?_; simp only [sz, ss]
    refine tkM 3 _ rfl rfl ?_; simp only [sz, ss]
    refine r1L 4 rfl fun K hK => ?_
    · go_simp
      go_at_call 138
      refine Calls.mono (qCJ _ _ xb xo cap b wr.drew (4 + 8 * k) (by omega) (by omega) (HRd.out.keep (fun _ _ => rfl)) 8 _ rfl (by decide) (by omega)) ?_
      rintro e w3 ⟨rfl, rd3, k3⟩
      rw [Lf.keyR_nat]
      have RD3 : Hid (Reads (w.heap.size + 1 + 1) w.heap.size xb xo cap b w3 (4 + 8 * (k + 1))) := by
       rw [show 4 + 8 * (k + 1) = 4 + 8 * k + 8 by omega]
       exact rd3
      have N3 : Hid (Row w3 (w6.heap.size + 1) 63 [.slice (some ⟨w6.heap.size, 0, none⟩) m m, .slice none 0 0]) := (HN.out.keep rfl : Row wr.drew _ _ _).kept1 k3 (by omega)
      have I3 : Hid (Row w3 w6.heap.size 45 (q0j (Lf.itemsK b k))) := (HI.out.keep rfl : Row wr.drew _ _ _).kept1 k3 (by omega)
      have R3 : Hid (Row w3 (w.heap.size + 1) 63 [.slice none 0 0, .slice none 0 0]) := (HR.out.keep rfl : Row wr.drew _ _ _).kept1 k3 (by omega)
      have B3 : Hid (Below w.heap.size w w3) := q2q (w := wr.drew) (BR.out.drew) k3 BR.out.size (by omega)
      have i0 := I3.out.cell (j := k * 2) (qDX (by rw [Lf.itemsK_len]; exact HKl.out)).1
      have i1 := I3.out.frozen (k * 2)
      clear rd3 k3
      go_simp
      refine hK.out _ _ (by exact N3.out.two.1) fun hH => ?_; clear hK K
      refine tkM 5 _ rfl rfl ?_; simp only [sz, ss]
      refine tkM 6 _ rfl rfl ?_; simp only [sz, ss]
      refine r1L 7 rfl fun K hK => ?_
      · go_simp
        refine hK.out _ _ (by exact (N3.out.setO (p := ⟨w6.heap.size, k * 2, none⟩) (by show w6.heap.size ≠ _; omega) _).two.1) fun hH => ?_; clear hK K
        refine wpAnyH_done (by kernel_rfl) ?_ _
        clear hH
        have I5 : Hid (Row (w3.setCell ⟨w6.heap.size, k * 2, none⟩ (.int .u64 ((Lf.keyR b k).toNat : Int))) w6.heap.size 45 (q0j (Lf.itemsK b (k + 1)))) := by
         have h := I3.out.set (k * 2) (.int .u64 ((Lf.keyR b k).toNat : Int))
         rw [q8q _ _ (by rw [Lf.itemsK_len]; exact HKl.out), Lf.itemsK_next HKl.out] at h
         exact h
        have N5 : Hid (Row (w3.setCell ⟨w6.heap.size, k * 2, none⟩ (.int .u64 ((Lf.keyR b k).toNat : Int))) (w6.heap.size + 1) 63 [.slice (some ⟨w6.heap.size, 0, none⟩) m m, .slice none 0 0]) := N3.out.setO (p := ⟨w6.heap.size, k * 2, none⟩) (by show w6.heap.size ≠ _; omega) _
        have R5 : Hid (Row (w3.setCell ⟨w6.heap.size, k * 2, none⟩ (.int .u64 ((Lf.keyR b k).toNat : Int))) (w.heap.size + 1) 63 [.slice none 0 0, .slice none 0 0]) := R3.out.setO (p := ⟨w6.heap.size, k * 2, none⟩) (by show w6.heap.size ≠ _; omega) _
        have RD5 : Hid (Reads (w.heap.size + 1 + 1) w.heap.size xb xo cap b (w3.setCell ⟨w6.heap.size, k * 2, none⟩ (.int .u64 ((Lf.keyR b k).toNat : Int))) (4 + 8 * (k + 1))) := RD3.out.keep (fun x hx => Below.heap_setCell _ _ _ _ (by show x ≠ w6.heap.size; omega))
        have B5 : Hid (Below w.heap.size w (w3.setCell ⟨w6.heap.size, k * 2, none⟩ (.int .u64 ((Lf.keyR b k).toNat : Int)))) := B3.out.setCell (p := ⟨w6.heap.size, k * 2, none⟩) (by show w.heap.size ≤ w6.heap.size; omega) _
        go_wp2
        go_roundw
        case rel => exact ⟨k + 1, by omega, by go_num, RD5, I5, N5, R5, B5.out⟩
        case measure => simp [intOf]; omega
  · obtain rfl : m = k := by omega
    obtain ⟨t0, t1⟩ := HN.out.two
    go_wp2
    clear t0 t1
    go_loopw [48] (fun i wr => ∃ k : Nat, k ≤ m ∧ i = .int .i64 k ∧ Hid (Reads (w.heap.size + 1 + 1) w.heap.size xb xo cap b wr (4 + 8 * m + 8 * k)) ∧ Hid (Row wr w6.heap.size 45 (q0j (Lf.itemsV b k))) ∧ Hid (Row wr (w6.heap.size + 1) 63 [.slice (some ⟨w6.heap.size, 0, none⟩) m m, .slice none 0 0]) ∧ Hid (Row wr (w.heap.size + 1) 63 [.slice none 0 0, .slice none 0 0]) ∧ Below w.heap.size w wr) (fun i _ => m - (intOf i).toNat)
    case atStart => exact ⟨0, Nat.zero_le _, rfl, HRd, by rw [Lf.itemsV_zero, HM.out]; exact HI, HN, HR, bel⟩
    case round =>
     clear HRd HI HN HR bel
     obtain ⟨k, hk, rfl, HRd, HI, HN, HR, bel⟩ := hrel
     by_cases hlt : k < m
     · have HKl : Hid (k < Lf.cnt b) := by unfold Hid; rw [HM.out]; exact hlt
       have hkz : (k : Int) < (m : Int) := by omega
       have BR : Hid _ := bel
       clear bel
       go_wp2_with fail
       refine wp_region_held_drew (S := (fun w' : World => w'.cell? ⟨w6.heap.size + 1, 0, none⟩ = some (.slice (some ⟨w6.heap.size, 0, none⟩) m m))) (by kernel_rfl) ((HN.out.keep rfl : Row wr.drew _ _ _).two.1) (fun hH => ?_)
       refine tkM 0 _ rfl rfl ?_; simp only [sz, ss]
       refine tkM 1 _ rfl rfl ?_; simp only [sz, ss]
       refine tkM 2 _ rfl rfl ?_; simp only [sz, ss]
       refine tkM 3 _ rfl rfl ?_; simp only [sz, ss]
       refine r1L 4 rfl fun K hK => ?_
       · go_simp
         go_at_call 138
         refine Calls.mono (qCJ _ _ xb xo cap b wr.drew (4 + 8 * m + 8 * k) (by omega) (by omega) (HRd.out.keep (fun _ _ => rfl)) 8 _ rfl (by decide) (by omega)) ?_
         rintro e w3 ⟨rfl, rd3, k3⟩
         rw [Lf.valR_nat b k m HM.out]
         have RD3 : Hid (Reads (w.heap.size + 1 + 1) w.heap.size xb xo cap b w3 (4 + 8 * m + 8 * (k + 1))) := by
          rw [show 4 + 8 * m + 8 * (k + 1) = 4 + 8 * m + 8 * k + 8 by omega]
          exact rd3
         have N3 : Hid (Row w3 (w6.heap.size + 1) 63 [.slice (some ⟨w6.heap.size, 0, none⟩) m m, .slice none 0 0]) := (HN.out.keep rfl : Row wr.drew _ _ _).kept1 k3 (by omega)
         have I3 : Hid (Row w3 w6.heap.size 45 (q0j (Lf.itemsV b k))) := (HI.out.keep rfl : Row wr.drew _ _ _).kept1 k3 (by omega)
         have R3 : Hid (Row w3 (w.heap.size + 1) 63 [.slice none 0 0, .slice none 0 0]) := (HR.out.keep rfl : Row wr.drew _ _ _).kept1 k3 (by omega)
         have B3 : Hid (Below w.heap.size w w3) := q2q (w := wr.drew) (BR.out.drew) k3 BR.out.size (by omega)
         have i0 := I3.out.cell (j := k * 2 + 1) (qDX (by rw [Lf.itemsV_len]; exact HKl.out)).2
         have i1 := I3.out.frozen (k * 2 + 1)
         clear rd3 k3
         go_simp
         refine hK.out _ _ (by exact N3.out.two.1) fun hH => ?_; clear hK K
         refine tkM 5 _ rfl rfl ?_; simp only [sz, ss]
         refine tkM 6 _ rfl rfl ?_; simp only [sz, ss]
         refine r1L 7 rfl fun K hK => ?_
         · go_simp
           refine hK.out _ _ (by exact (N3.out.setO (p := ⟨w6.heap.size, k * 2 + 1, none⟩) (by show w6.heap.size ≠ _; omega) _).two.1) fun hH => ?_; clear hK K
           refine wpAnyH_done (by kernel_rfl) ?_ _
           clear hH
           have I5 : Hid (Row (w3.setCell ⟨w6.heap.size, k * 2 + 1, none⟩ (.int .u64 ((Lf.valR b k).toNat : Int))) w6.heap.size 45 (q0j (Lf.itemsV b (k + 1)))) := by
            have h := I3.out.set (k * 2 + 1) (.int .u64 ((Lf.valR b k).toNat : Int))
            rw [qCj _ _ (by rw [Lf.itemsV_len]; exact HKl.out), Lf.itemsV_next HKl.out] at h
            exact h
           have N5 : Hid (Row (w3.setCell ⟨w6.heap.size, k * 2 + 1, none⟩ (.int .u64 ((Lf.valR b k).toNat : Int))) (w6.heap.size + 1) 63 [.slice (some ⟨w6.heap.size, 0, none⟩) m m, .slice none 0 0]) := N3.out.setO (p := ⟨w6.heap.size, k * 2 + 1, none⟩) (by show w6.heap.size ≠ _; omega) _
           have R5 : Hid (Row (w3.setCell ⟨w6.heap.size, k * 2 + 1, none⟩ (.int .u64 ((Lf.valR b k).toNat : Int))) (w.heap.size + 1) 63 [.slice none 0 0, .slice none 0 0]) := R3.out.setO (p := ⟨w6.heap.size, k * 2 + 1, none⟩) (by show w6.heap.size ≠ _; omega) _
           have RD5 : Hid (Reads (w.heap.size + 1 + 1) w.heap.size xb xo cap b (w3.setCell ⟨w6.heap.size, k * 2 + 1, none⟩ (.int .u64 ((Lf.valR b k).toNat : Int))) (4 + 8 * m + 8 * (k + 1))) := RD3.out.keep (fun x hx => Below.heap_setCell _ _ _ _ (by show x ≠ w6.heap.size; omega))
           have B5 : Hid (Below w.heap.size w (w3.setCell ⟨w6.heap.size, k * 2 + 1, none⟩ (.int .u64 ((Lf.valR b k).toNat : Int)))) := B3.out.setCell (p := ⟨w6.heap.size, k * 2 + 1, none⟩) (by show w.heap.size ≤ w6.heap.size; omega) _
           go_wp2
           go_roundw
           case rel => exact ⟨k + 1, by omega, by go_num, RD5, I5, N5, R5, B5.out⟩
           case measure => simp [intOf]; omega
     · obtain rfl : m = k := by omega
       have HIf : Hid (Row wr w6.heap.size 45 (q0j (Lf.readI b))) := by have h := HI.out; rw [← HM.out, Lf.itemsV_all HKd.out] at h; exact h
       obtain ⟨t0, t1⟩ := HN.out.two
       obtain ⟨s0, s1⟩ := HR.out.two
       have g0 := HR.out.frozen 0
       have g1 := HR.out.frozen 1
       go_wp2
       refine st_retv HR.out bel (by omega) _ _ _ rfl rfl rfl Tryz.underlying63 rfl (by kernel_rfl) ?_
       intro w' K' B'
       exact ⟨_, _, rfl, OwnI.ofRow (HIf.out.keep (K'.block _ (by omega))) (by show (Lf.readI b).length = m; rw [Lf.readI_len, HM.out]) (by omega) (by omega), (by show OwnK _ _ _ _ (Lf.readK b); rw [Lf.readK_leaf HKd.out]; exact OwnK.nil _ _ _), B'⟩
set_option maxRecDepth 20000 in
theorem read_kids (w : World) (xb xo cap : Nat) (b : List UInt8) (hB : IsB w (some ⟨xb, xo, none⟩) 60 b) (hk : b.getD 0 0 = 2) :
 Calls Tryz.prog 123 #[.slice (some ⟨xb, xo, none⟩) 60 cap] w fun e w' => ∃ v v', e = .returned (.tuple #[.agg #[v, v'], .bool true]) ∧ OwnI 45 w' w.heap.size v (Lf.readN b).1 ∧ OwnK 3 w' w.heap.size v' (Lf.readN b).2 ∧ Below w.heap.size w w' := by
 have HKd : Hid (b.getD 0 0 = 2) := hk
 clear hk
 have HL : Hid (b.length = 60) := hB.1
 have hxb : xb < w.heap.size := hB.lt
 obtain ⟨w0, hw0, V0, b0, z0⟩ := q0q w 53 [.slice (some ⟨xb, xo, none⟩) 60 cap]
 obtain ⟨w1, hw1, V1, b1, z1⟩ := q0q w0 63 [.slice none 0 0, .slice none 0 0]
 rw [z0] at V1 z1
 obtain ⟨w2, hw2, V2, b2, z2⟩ := q0q w1 3 [.int .i64 0]
 rw [z1] at V2 z2
 have f2 := V2.frozen 0
 have c2 := V2.cell (j := 0) rfl
 obtain ⟨w3, hw3⟩ : ∃ w3, w2.setCell ⟨w.heap.size + 1 + 1, 0, none⟩ (.int .i64 0) = w3 := ⟨_, rfl⟩
 have HRd : Hid (Reads (w.heap.size + 1 + 1) w.heap.size xb xo cap b w3 (0)) := by
  rw [← hw3]
  exact ⟨V2.set 0 (.int .i64 0), ((V0.below b1).below b2).setO (p := ⟨w.heap.size + 1 + 1, 0, none⟩) (by show w.heap.size + 1 + 1 ≠ _; omega) _, (((hB.below b0).below b1).below b2).keepB (Below.heap_setCell _ _ _ _ (by show xb ≠ w.heap.size + 1 + 1; omega))⟩
 have HRes : Hid (Row w3 (w.heap.size + 1) 63 [.slice none 0 0, .slice none 0 0]) := by
  rw [← hw3]
  exact (V1.below b2).setO (p := ⟨w.heap.size + 1 + 1, 0, none⟩) (by show w.heap.size + 1 + 1 ≠ _; omega) _
 have B3 : Hid (Below w.heap.size w w3) := by
  rw [← hw3]
  exact (on (on b0 b1) b2).setCell (p := ⟨w.heap.size + 1 + 1, 0, none⟩) (by show w.heap.size ≤ w.heap.size + 1 + 1; omega) _
 clear V0 V1 V2 b0 b1 b2 z2 hB
 go_enter Tryz.func123, Tryz.ntmps123
 go_wp2_with fail
 refine (qCJ _ _ xb xo cap b _ 0 (by omega) (by omega) HRd.out 1 _ rfl (by decide) (by decide)).mono ?_
 rintro e w4 ⟨rfl, rd4, k4⟩
 rw [Lf.getN_one (p := 0) (by rw [HL.out]; decide)]
 have RD4 : Hid _ := rd4
 have R4 : Hid (Row w4 (w.heap.size + 1) 63 [.slice none 0 0, .slice none 0 0]) := HRes.out.kept1 k4 (by omega)
 have B4 : Hid (Below w.heap.size w w4) := q2q B3.out k4 B3.out.size (by omega)
 clear rd4 k4 f2 c2 hw0 hw1 hw2 hw3 z0 z1 HRd HRes B3
 rw [show ((b.getD 0 0).toNat : Int) = 2 by rw [HKd.out]; rfl]
 go_wp2_with fail
 refine (qCJ _ _ xb xo cap b _ 1 (by omega) (by omega) RD4.out 1 _ rfl (by decide) (by decide)).mono ?_
 rintro e w5 ⟨rfl, rd5, k5⟩
 rw [Lf.getN_one (p := 1) (by rw [HL.out]; decide)]
 obtain ⟨m, hm⟩ : ∃ m, m = Lf.cnt b := ⟨_, rfl⟩
 rw [show (b.getD 1 0).toNat = m from hm.symm]
 have HM : Hid (Lf.cnt b = m) := hm.symm
 have hm1 : m ≤ 255 := by have := Lf.cnt_lt b; omega
 have RD5 : Hid _ := rd5
 have R5 : Hid (Row w5 (w.heap.size + 1) 63 [.slice none 0 0, .slice none 0 0]) := R4.out.kept1 k5 (by omega)
 have B5 : Hid (Below w.heap.size w w5) := q2q B4.out k5 B4.out.size (by omega)
 clear rd5 k5 hm RD4 R4 B4
 go_wp2_with fail
 refine (qCJ _ _ xb xo cap b _ 2 (by omega) (by omega) RD5.out 2 _ rfl (by decide) (by decide)).mono ?_
 rintro e w6 ⟨rfl, rd6, k6⟩
 have RD6 : Hid _ := rd6
 have R6 : Hid (Row w6 (w.heap.size + 1) 63 [.slice none 0 0, .slice none 0 0]) := R5.out.kept1 k6 (by omega)
 have B6 : Hid (Below w.heap.size w w6) := q2q B5.out k6 B5.out.size (by omega)
 have hg6 : w.heap.size + 1 + 1 < w6.heap.size := RD6.out.spot.lt
 clear rd6 k6 RD5 R5 B5
 obtain ⟨GN2, hGN2⟩ : ∃ GN2, GN2 = Lf.getN b 2 2 := ⟨_, rfl⟩
 rw [← hGN2]
 clear hGN2
 go_wp2_with (at_make; refine make_itms _ rfl _ _ rfl m _ rfl rfl rfl (by omega) ?_
              intro w7 HI7 b7 z7
              obtain ⟨w8, hw8, V8, b8, z8⟩ := q0q w7 63 [.slice (some ⟨w6.heap.size, 0, none⟩) m m, .slice none 0 0]
              rw [z7] at V8 z8
              have f8 := V8.frozen 1
              have c8 := V8.cell (j := 1) rfl
              obtain ⟨w9, hw9⟩ : ∃ w9, w8.setCell ⟨w6.heap.size + 1, 1, none⟩ (.slice none 0 0) = w9 := ⟨_, rfl⟩
              have N9 : Hid (Row w9 (w6.heap.size + 1) 63 [.slice (some ⟨w6.heap.size, 0, none⟩) m m, .slice none 0 0]) := (by rw [← hw9]; exact V8.set 1 (.slice none 0 0))
              have I9 : Hid (Row w9 w6.heap.size 45 (q0j (Lf.itemsK b 0))) := (by rw [← hw9, Lf.itemsK_zero, HM.out]; exact (HI7.out.below b8).setO (p := ⟨w6.heap.size + 1, 1, none⟩) (by show w6.heap.size + 1 ≠ _; omega) _)
              have R9 : Hid (Row w9 (w.heap.size + 1) 63 [.slice none 0 0, .slice none 0 0]) := (by rw [← hw9]; exact ((R6.out.below b7).below b8).setO (p := ⟨w6.heap.size + 1, 1, none⟩) (by show w6.heap.size + 1 ≠ _; omega) _)
              have RD9 : Hid (Reads (w.heap.size + 1 + 1) w.heap.size xb xo cap b w9 (4 + 8 * 0)) := (by rw [← hw9]; exact ((RD6.out.below b7).below b8).keep (fun x hx => Below.heap_setCell _ _ _ _ (by show x ≠ w6.heap.size + 1; omega)))
              have B9 : Hid (Below w.heap.size w w9) := (by rw [← hw9]; exact (on (on B6.out b7) b8).setCell (p := ⟨w6.heap.size + 1, 1, none⟩) (by show w.heap.size ≤ w6.heap.size + 1; omega) _)
              obtain ⟨t0, t1⟩ := N9.out.two
              clear HI7 b7 V8 b8 z8)
 clear t0 t1 f8 c8 hw8 hw9 z7
 go_loopw [32] (fun i wr => ∃ k : Nat, k ≤ m ∧ i = .int .i64 k ∧ Hid (Reads (w.heap.size + 1 + 1) w.heap.size xb xo cap b wr (4 + 8 * k)) ∧ Hid (Row wr w6.heap.size 45 (q0j (Lf.itemsK b k))) ∧ Hid (Row wr (w6.heap.size + 1) 63 [.slice (some ⟨w6.heap.size, 0, none⟩) m m, .slice none 0 0]) ∧ Hid (Row wr (w.heap.size + 1) 63 [.slice none 0 0, .slice none 0 0]) ∧ Below w.heap.size w wr) (fun i _ => m - (intOf i).toNat)
 case atStart => exact ⟨0, Nat.zero_le _, rfl, RD9, I9, N9, R9, B9.out⟩
 case round =>
  obtain ⟨k, hk, rfl, HRd, HI, HN, HR, bel⟩ := hrel
  by_cases hlt : k < m
  · have HKl : Hid (k < Lf.cnt b) := by unfold Hid; rw [HM.out]; exact hlt
    have hkz : (k : Int) < (m : Int) := by omega
    have BR : Hid _ := bel
    clear bel
    go_wp2_with fail
    refine wp_region_held_drew (S := (fun w' : World => w'.cell? ⟨w6.heap.size + 1, 0, none⟩ = some (.slice (some ⟨w6.heap.size, 0, none⟩) m m))) (by kernel_rfl) ((HN.out.keep rfl : Row wr.drew _ _ _).two.1) (fun hH => ?_)
    refine tkM 0 _ rfl rfl ?_; simp only [sz, ss]
    refine tkM 1 _ rfl rfl ?_; simp only [sz, ss]
    refine tkM 2 _ rfl rfl ?_; simp only [sz, ss]
    refine tkM 3 _ rfl rfl ?_; simp only [sz, ss]
    refine r1L 4 rfl fun K hK => ?_
    · go_simp
      go_at_call 138
      refine Calls.mono (qCJ _ _ xb xo cap b wr.drew (4 + 8 * k) (by omega) (by omega) (HRd.out.keep (fun _ _ => rfl)) 8 _ rfl (by decide) (by omega)) ?_
      rintro e w3 ⟨rfl, rd3, k3⟩
      rw [Lf.keyR_nat]
      have RD3 : Hid (Reads (w.heap.size + 1 + 1) w.heap.size xb xo cap b w3 (4 + 8 * (k + 1))) := by
       rw [show 4 + 8 * (k + 1) = 4 + 8 * k + 8 by omega]
       exact rd3
      have N3 : Hid (Row w3 (w6.heap.size + 1) 63 [.slice (some ⟨w6.heap.size, 0, none⟩) m m, .slice none 0 0]) := (HN.out.keep rfl : Row wr.drew _ _ _).kept1 k3 (by omega)
      have I3 : Hid (Row w3 w6.heap.size 45 (q0j (Lf.itemsK b k))) := (HI.out.keep rfl : Row wr.drew _ _ _).kept1 k3 (by omega)
      have R3 : Hid (Row w3 (w.heap.size + 1) 63 [.slice none 0 0, .slice none 0 0]) := (HR.out.keep rfl : Row wr.drew _ _ _).kept1 k3 (by omega)
      have B3 : Hid (Below w.heap.size w w3) := q2q (w := wr.drew) (BR.out.drew) k3 BR.out.size (by omega)
      have i0 := I3.out.cell (j := k * 2) (qDX (by rw [Lf.itemsK_len]; exact HKl.out)).1
      have i1 := I3.out.frozen (k * 2)
      clear rd3 k3
      go_simp
      refine hK.out _ _ (by exact N3.out.two.1) fun hH => ?_; clear hK K
      refine tkM 5 _ rfl rfl ?_; simp only [sz, ss]
      refine tkM 6 _ rfl rfl ?_; simp only [sz, ss]
      refine r1L 7 rfl fun K hK => ?_
      · go_simp
        refine hK.out _ _ (by exact (N3.out.setO (p := ⟨w6.heap.size, k * 2, none⟩) (by show w6.heap.size ≠ _; omega) _).two.1) fun hH => ?_; clear hK K
        refine wpAnyH_done (by kernel_rfl) ?_ _
        clear hH
        have I5 : Hid (Row (w3.setCell ⟨w6.heap.size, k * 2, none⟩ (.int .u64 ((Lf.keyR b k).toNat : Int))) w6.heap.size 45 (q0j (Lf.itemsK b (k + 1)))) := by
         have h := I3.out.set (k * 2) (.int .u64 ((Lf.keyR b k).toNat : Int))
         rw [q8q _ _ (by rw [Lf.itemsK_len]; exact HKl.out), Lf.itemsK_next HKl.out] at h
         exact h
        have N5 : Hid (Row (w3.setCell ⟨w6.heap.size, k * 2, none⟩ (.int .u64 ((Lf.keyR b k).toNat : Int))) (w6.heap.size + 1) 63 [.slice (some ⟨w6.heap.size, 0, none⟩) m m, .slice none 0 0]) := N3.out.setO (p := ⟨w6.heap.size, k * 2, none⟩) (by show w6.heap.size ≠ _; omega) _
        have R5 : Hid (Row (w3.setCell ⟨w6.heap.size, k * 2, none⟩ (.int .u64 ((Lf.keyR b k).toNat : Int))) (w.heap.size + 1) 63 [.slice none 0 0, .slice none 0 0]) := R3.out.setO (p := ⟨w6.heap.size, k * 2, none⟩) (by show w6.heap.size ≠ _; omega) _
        have RD5 : Hid (Reads (w.heap.size + 1 + 1) w.heap.size xb xo cap b (w3.setCell ⟨w6.heap.size, k * 2, none⟩ (.int .u64 ((Lf.keyR b k).toNat : Int))) (4 + 8 * (k + 1))) := RD3.out.keep (fun x hx => Below.heap_setCell _ _ _ _ (by show x ≠ w6.heap.size; omega))
        have B5 : Hid (Below w.heap.size w (w3.setCell ⟨w6.heap.size, k * 2, none⟩ (.int .u64 ((Lf.keyR b k).toNat : Int)))) := B3.out.setCell (p := ⟨w6.heap.size, k * 2, none⟩) (by show w.heap.size ≤ w6.heap.size; omega) _
        go_wp2
        go_roundw
        case rel => exact ⟨k + 1, by omega, by go_num, RD5, I5, N5, R5, B5.out⟩
        case measure => simp [intOf]; omega
  · obtain rfl : m = k := by omega
    have HIf : Hid (Row wr w6.heap.size 45 (q0j (Lf.readI b))) := by have h := HI.out; rw [← HM.out, Lf.itemsK_all HKd.out] at h; exact h
    obtain ⟨t0, t1⟩ := HN.out.two
    go_wp2
    clear t0 t1
    go_loopw [62] (fun i wr => ∃ (k : Nat) (ua : Option Addr) (un uc : Nat), k ≤ m + 1 ∧ i = .int .i64 k ∧ Hid (Reads (w.heap.size + 1 + 1) w.heap.size xb xo cap b wr (4 + 8 * m + 4 * k)) ∧ Hid (Row wr w6.heap.size 45 (q0j (Lf.readI b))) ∧ Hid (Row wr (w6.heap.size + 1) 63 [.slice (some ⟨w6.heap.size, 0, none⟩) m m, .slice ua un uc]) ∧ Hid (Row wr (w.heap.size + 1) 63 [.slice none 0 0, .slice none 0 0]) ∧ Hid (OwnK 3 wr (w6.heap.size + 2) (.slice ua un uc) (Lf.kidsR b k)) ∧ Hid (w6.heap.size + 2 ≤ wr.heap.size) ∧ Below w.heap.size w wr) (fun i _ => m + 1 - (intOf i).toNat)
    case atStart => exact ⟨0, none, 0, 0, Nat.zero_le _, rfl, HRd, HIf, HN, HR, OwnK.nil _ _ _, HN.out.lt, bel⟩
    case round =>
     clear HRd HI HIf HN HR bel
     obtain ⟨k, ua, un, uc, hk, rfl, HRd, HI, HN, HR, HO, HZ, bel⟩ := hrel
     by_cases hlt : k < m + 1
     · have BR : Hid _ := bel
       have HNx : Hid _ := Lf.kidsR_next b k
       obtain ⟨q, hq⟩ : ∃ q, q = Lf.getN b (4 + 8 * m + 4 * k) 4 := ⟨_, rfl⟩
       have hq1 : q < 4294967296 := by rw [hq]; exact Lf.getN_lt b _ 4 (by decide) (by decide)
       have HQ : Hid (Lf.getN b (4 + 8 * m + 4 * k) 4 = q) := hq.symm
       rw [show Lf.kidR b k = (q : Int) by unfold Lf.kidR; rw [HM.out, hq]] at HNx
       clear bel hq
       have q1 := HN.out.cell (j := 1) rfl
       have hkz : (k : Int) < (m : Int) + 1 := by omega
       have hwr : IntKind.i64.wrap (q : Int) = (q : Int) := by rw [IntKind.wrap_i64]; omega
       go_wp2_with fail
       refine wp_region_held_drew (S := (fun _ : World => True)) (by kernel_rfl) (trivial) (fun hH => ?_)
       refine tkM 0 _ rfl rfl ?_; simp only [sz, ss]
       refine tkM 2 _ rfl rfl ?_; simp only [sz, ss]
       refine rdL [1, 3] ?_
       refine rcL (fun K hK => ?_) ?_
       · go_simp
         refine hK.out _ _ ?_ (fun hH => ?_)
         · try dsimp only
           all_goals trivial
         clear hK K
         refine r1L 3 rfl fun K hK => ?_
         · go_simp
           go_at_call 138
           refine Calls.mono (qCJ _ _ xb xo cap b wr.drew (4 + 8 * m + 4 * k) (by omega) (by omega) (HRd.out.keep (fun _ _ => rfl)) 4 _ rfl (by decide) (by omega)) ?_
           rintro e w3 ⟨rfl, rd3, k3⟩
           rw [HQ.out]
           have RD3 : Hid (Reads (w.heap.size + 1 + 1) w.heap.size xb xo cap b w3 (4 + 8 * m + 4 * (k + 1))) := (by rw [show 4 + 8 * m + 4 * (k + 1) = 4 + 8 * m + 4 * k + 4 by omega]; exact rd3)
           have N3 : Hid (Row w3 (w6.heap.size + 1) 63 [.slice (some ⟨w6.heap.size, 0, none⟩) m m, .slice ua un uc]) := (HN.out.keep rfl : Row wr.drew _ _ _).kept1 k3 (by omega)
           have I3 : Hid (Row w3 w6.heap.size 45 (q0j (Lf.readI b))) := (HI.out.keep rfl : Row wr.drew _ _ _).kept1 k3 (by omega)
           have R3 : Hid (Row w3 (w.heap.size + 1) 63 [.slice none 0 0, .slice none 0 0]) := (HR.out.keep rfl : Row wr.drew _ _ _).kept1 k3 (by omega)
           have B3 : Hid (Below w.heap.size w w3) := q2q (w := wr.drew) (BR.out.drew) k3 BR.out.size (by omega)
           have O3 : Hid (OwnK 3 w3 (w6.heap.size + 2) (.slice ua un uc) (Lf.kidsR b k)) := HO.out.keep1 (fun x ex => k3.block x ⟨(HO.out.row.lt x ex).2, by have := (HO.out.row.lt x ex).1; omega⟩)
           have Z3 : Hid (w6.heap.size + 2 ≤ w3.heap.size) := zw1 HZ.out k3.size
           obtain ⟨v', w4, hr4, ho4, gr4⟩ := q2J O3.out (q : Int) (by omega) (by simp [Lf.kidsR]; omega) Z3.out 25
           obtain ⟨a4, n4, c4, rfl⟩ : ∃ a n c, v' = .slice a n c := (by obtain ⟨a, c, e, -⟩ := ho4.slice; exact ⟨a, _, c, e⟩)
           have hne : ∀ x, x < w6.heap.size + 2 → (Value.slice ua un uc).ownBlock ≠ some x := fun x hx e => (by have := (O3.out.row.lt _ e).1; omega)
           have AL : Below w3.heap.size w3 (w3.alloc (.cells #[.int .i64 (q : Int)] 3)) := (Below.refl _ _).alloc (zw0 _) _
           have N4 : Hid (Row w4 (w6.heap.size + 1) 63 [.slice (some ⟨w6.heap.size, 0, none⟩) m m, .slice ua un uc]) := (N3.out.below AL).grew gr4 (hne _ (by omega))
           have I4 : Hid (Row w4 w6.heap.size 45 (q0j (Lf.readI b))) := (I3.out.below AL).grew gr4 (hne _ (by omega))
           have R4 : Hid (Row w4 (w.heap.size + 1) 63 [.slice none 0 0, .slice none 0 0]) := (R3.out.below AL).grew gr4 (hne _ (by omega))
           have RD4 : Hid (Reads (w.heap.size + 1 + 1) w.heap.size xb xo cap b w4 (4 + 8 * m + 4 * (k + 1))) := ⟨(RD3.out.spot.below AL).grew gr4 (hne _ (by omega)), (RD3.out.box.below AL).grew gr4 (hne _ (by omega)), (RD3.out.oct.below AL).keepB (gr4.grown.block xb (RD3.out.oct.below AL).lt (fun e => hne xb (by omega) e.symm))⟩
           have B4 : Hid (Below w.heap.size w w4) := (q0Q B3.out _).grown gr4.grown (q0Q B3.out _).size (fun kk hkk => (by have := (O3.out.row.lt kk hkk).1; omega))
           have Z4 : Hid (w6.heap.size + 2 ≤ w4.heap.size) := zw1 Z3.out (zw1 AL.size gr4.grown.size)
           have O4 : Hid (OwnK 3 w4 (w6.heap.size + 2) (.slice a4 n4 c4) (Lf.kidsR b (k + 1))) := (by unfold Hid; rw [HNx.out]; exact ho4)
           have q3 := N3.out.cell (j := 1) rfl
           have q4 := (N3.out.below AL).cell (j := 1) rfl
           have q5 := N4.out.cell (j := 1) rfl
           have q6 := N4.out.frozen 1
           have HR4 : Hid _ := hr4
           clear rd3 k3 ho4 gr4 AL hne hr4
           go_simp
           refine hK.out _ _ ?_ (fun hH => ?_)
           · try dsimp only
             all_goals trivial
           clear hK K
           refine tkM 4 _ rfl rfl ?_; simp only [sz, ss]
           refine r1L 5 rfl fun K hK => ?_
           · go_simp
             refine hK.out _ _ ?_ (fun hH => ?_)
             · try dsimp only
               all_goals trivial
             clear hK K
             refine r1L 6 rfl fun K hK => ?_
             · refine q1z rfl (by rfl) _ _ _ rfl _ _ _ rfl rfl HR4.out ?_
               simp only [sz, ss]
               refine hK.out _ _ ?_ (fun hH => ?_)
               · try dsimp only
                 all_goals trivial
               clear hK K
               refine tkM 7 _ rfl rfl ?_; simp only [sz, ss]
               refine r1L 8 rfl fun K hK => ?_
               · go_simp
                 refine hK.out _ _ ?_ (fun hH => ?_)
                 · try dsimp only
                   all_goals trivial
                 clear hK K
                 refine wpAnyH_done (by kernel_rfl) ?_ _
                 clear hH
                 have N5 : Hid (Row (w4.setCell ⟨w6.heap.size + 1, 1, none⟩ (.slice a4 n4 c4)) (w6.heap.size + 1) 63 [.slice (some ⟨w6.heap.size, 0, none⟩) m m, .slice a4 n4 c4]) := N4.out.set 1 _
                 have I5 : Hid (Row (w4.setCell ⟨w6.heap.size + 1, 1, none⟩ (.slice a4 n4 c4)) w6.heap.size 45 (q0j (Lf.readI b))) := I4.out.setO (p := ⟨w6.heap.size + 1, 1, none⟩) (by show w6.heap.size + 1 ≠ _; omega) _
                 have R5 : Hid (Row (w4.setCell ⟨w6.heap.size + 1, 1, none⟩ (.slice a4 n4 c4)) (w.heap.size + 1) 63 [.slice none 0 0, .slice none 0 0]) := R4.out.setO (p := ⟨w6.heap.size + 1, 1, none⟩) (by show w6.heap.size + 1 ≠ _; omega) _
                 have RD5 : Hid (Reads (w.heap.size + 1 + 1) w.heap.size xb xo cap b (w4.setCell ⟨w6.heap.size + 1, 1, none⟩ (.slice a4 n4 c4)) (4 + 8 * m + 4 * (k + 1))) := RD4.out.keep (fun x hx => Below.heap_setCell _ _ _ _ (by show x ≠ w6.heap.size + 1; omega))
                 have O5 : Hid (OwnK 3 (w4.setCell ⟨w6.heap.size + 1, 1, none⟩ (.slice a4 n4 c4)) (w6.heap.size + 2) (.slice a4 n4 c4) (Lf.kidsR b (k + 1))) := O4.out.setB (p := ⟨w6.heap.size + 1, 1, none⟩) (by show w6.heap.size + 1 < _; omega) _
                 have B5 : Hid (Below w.heap.size w (w4.setCell ⟨w6.heap.size + 1, 1, none⟩ (.slice a4 n4 c4))) := B4.out.setCell (p := ⟨w6.heap.size + 1, 1, none⟩) (by show w.heap.size ≤ w6.heap.size + 1; omega) _
                 have Z5 : Hid (w6.heap.size + 2 ≤ (w4.setCell ⟨w6.heap.size + 1, 1, none⟩ (.slice a4 n4 c4)).heap.size) := by have := Z4.out; unfold Hid; simpa [World.setCell] using this
                 go_wp2
                 go_roundw
                 case rel => exact ⟨k + 1, a4, n4, c4, by omega, by go_num, RD5, I5, N5, R5, O5, Z5, B5.out⟩
                 case measure => simp [intOf]; omega
       refine rcL (fun K hK => ?_) ?_
       · go_simp
         go_at_call 138
         refine Calls.mono (qCJ _ _ xb xo cap b wr.drew (4 + 8 * m + 4 * k) (by omega) (by omega) (HRd.out.keep (fun _ _ => rfl)) 4 _ rfl (by decide) (by omega)) ?_
         rintro e w3 ⟨rfl, rd3, k3⟩
         rw [HQ.out]
         have RD3 : Hid (Reads (w.heap.size + 1 + 1) w.heap.size xb xo cap b w3 (4 + 8 * m + 4 * (k + 1))) := (by rw [show 4 + 8 * m + 4 * (k + 1) = 4 + 8 * m + 4 * k + 4 by omega]; exact rd3)
         have N3 : Hid (Row w3 (w6.heap.size + 1) 63 [.slice (some ⟨w6.heap.size, 0, none⟩) m m, .slice ua un uc]) := (HN.out.keep rfl : Row wr.drew _ _ _).kept1 k3 (by omega)
         have I3 : Hid (Row w3 w6.heap.size 45 (q0j (Lf.readI b))) := (HI.out.keep rfl : Row wr.drew _ _ _).kept1 k3 (by omega)
         have R3 : Hid (Row w3 (w.heap.size + 1) 63 [.slice none 0 0, .slice none 0 0]) := (HR.out.keep rfl : Row wr.drew _ _ _).kept1 k3 (by omega)
         have B3 : Hid (Below w.heap.size w w3) := q2q (w := wr.drew) (BR.out.drew) k3 BR.out.size (by omega)
         have O3 : Hid (OwnK 3 w3 (w6.heap.size + 2) (.slice ua un uc) (Lf.kidsR b k)) := HO.out.keep1 (fun x ex => k3.block x ⟨(HO.out.row.lt x ex).2, by have := (HO.out.row.lt x ex).1; omega⟩)
         have Z3 : Hid (w6.heap.size + 2 ≤ w3.heap.size) := zw1 HZ.out k3.size
         obtain ⟨v', w4, hr4, ho4, gr4⟩ := q2J O3.out (q : Int) (by omega) (by simp [Lf.kidsR]; omega) Z3.out 25
         obtain ⟨a4, n4, c4, rfl⟩ : ∃ a n c, v' = .slice a n c := (by obtain ⟨a, c, e, -⟩ := ho4.slice; exact ⟨a, _, c, e⟩)
         have hne : ∀ x, x < w6.heap.size + 2 → (Value.slice ua un uc).ownBlock ≠ some x := fun x hx e => (by have := (O3.out.row.lt _ e).1; omega)
         have AL : Below w3.heap.size w3 (w3.alloc (.cells #[.int .i64 (q : Int)] 3)) := (Below.refl _ _).alloc (zw0 _) _
         have N4 : Hid (Row w4 (w6.heap.size + 1) 63 [.slice (some ⟨w6.heap.size, 0, none⟩) m m, .slice ua un uc]) := (N3.out.below AL).grew gr4 (hne _ (by omega))
         have I4 : Hid (Row w4 w6.heap.size 45 (q0j (Lf.readI b))) := (I3.out.below AL).grew gr4 (hne _ (by omega))
         have R4 : Hid (Row w4 (w.heap.size + 1) 63 [.slice none 0 0, .slice none 0 0]) := (R3.out.below AL).grew gr4 (hne _ (by omega))
         have RD4 : Hid (Reads (w.heap.size + 1 + 1) w.heap.size xb xo cap b w4 (4 + 8 * m + 4 * (k + 1))) := ⟨(RD3.out.spot.below AL).grew gr4 (hne _ (by omega)), (RD3.out.box.below AL).grew gr4 (hne _ (by omega)), (RD3.out.oct.below AL).keepB (gr4.grown.block xb (RD3.out.oct.below AL).lt (fun e => hne xb (by omega) e.symm))⟩
         have B4 : Hid (Below w.heap.size w w4) := (q0Q B3.out _).grown gr4.grown (q0Q B3.out _).size (fun kk hkk => (by have := (O3.out.row.lt kk hkk).1; omega))
         have Z4 : Hid (w6.heap.size + 2 ≤ w4.heap.size) := zw1 Z3.out (zw1 AL.size gr4.grown.size)
         have O4 : Hid (OwnK 3 w4 (w6.heap.size + 2) (.slice a4 n4 c4) (Lf.kidsR b (k + 1))) := (by unfold Hid; rw [HNx.out]; exact ho4)
         have q3 := N3.out.cell (j := 1) rfl
         have q4 := (N3.out.below AL).cell (j := 1) rfl
         have q5 := N4.out.cell (j := 1) rfl
         have q6 := N4.out.frozen 1
         have HR4 : Hid _ := hr4
         clear rd3 k3 ho4 gr4 AL hne hr4
         go_simp
         refine hK.out _ _ ?_ (fun hH => ?_)
         · try dsimp only
           all_goals trivial
         clear hK K
         refine tkM 4 _ rfl rfl ?_; simp only [sz, ss]
         refine rdL [1, 5] ?_
         refine rcL (fun K hK => ?_) ?_
         · go_simp
           refine hK.out _ _ ?_ (fun hH => ?_)
           · try dsimp only
             all_goals trivial
           clear hK K
           refine r1L 5 rfl fun K hK => ?_
           · go_simp
             refine hK.out _ _ ?_ (fun hH => ?_)
             · try dsimp only
               all_goals trivial
             clear hK K
             refine r1L 6 rfl fun K hK => ?_
             · refine q1z rfl (by rfl) _ _ _ rfl _ _ _ rfl rfl HR4.out ?_
               simp only [sz, ss]
               refine hK.out _ _ ?_ (fun hH => ?_)
               · try dsimp only
                 all_goals trivial
               clear hK K
               refine tkM 7 _ rfl rfl ?_; simp only [sz, ss]
               refine r1L 8 rfl fun K hK => ?_
               · go_simp
                 refine hK.out _ _ ?_ (fun hH => ?_)
                 · try dsimp only
                   all_goals trivial
                 clear hK K
                 refine wpAnyH_done (by kernel_rfl) ?_ _
                 clear hH
                 have N5 : Hid (Row (w4.setCell ⟨w6.heap.size + 1, 1, none⟩ (.slice a4 n4 c4)) (w6.heap.size + 1) 63 [.slice (some ⟨w6.heap.size, 0, none⟩) m m, .slice a4 n4 c4]) := N4.out.set 1 _
                 have I5 : Hid (Row (w4.setCell ⟨w6.heap.size + 1, 1, none⟩ (.slice a4 n4 c4)) w6.heap.size 45 (q0j (Lf.readI b))) := I4.out.setO (p := ⟨w6.heap.size + 1, 1, none⟩) (by show w6.heap.size + 1 ≠ _; omega) _
                 have R5 : Hid (Row (w4.setCell ⟨w6.heap.size + 1, 1, none⟩ (.slice a4 n4 c4)) (w.heap.size + 1) 63 [.slice none 0 0, .slice none 0 0]) := R4.out.setO (p := ⟨w6.heap.size + 1, 1, none⟩) (by show w6.heap.size + 1 ≠ _; omega) _
                 have RD5 : Hid (Reads (w.heap.size + 1 + 1) w.heap.size xb xo cap b (w4.setCell ⟨w6.heap.size + 1, 1, none⟩ (.slice a4 n4 c4)) (4 + 8 * m + 4 * (k + 1))) := RD4.out.keep (fun x hx => Below.heap_setCell _ _ _ _ (by show x ≠ w6.heap.size + 1; omega))
                 have O5 : Hid (OwnK 3 (w4.setCell ⟨w6.heap.size + 1, 1, none⟩ (.slice a4 n4 c4)) (w6.heap.size + 2) (.slice a4 n4 c4) (Lf.kidsR b (k + 1))) := O4.out.setB (p := ⟨w6.heap.size + 1, 1, none⟩) (by show w6.heap.size + 1 < _; omega) _
                 have B5 : Hid (Below w.heap.size w (w4.setCell ⟨w6.heap.size + 1, 1, none⟩ (.slice a4 n4 c4))) := B4.out.setCell (p := ⟨w6.heap.size + 1, 1, none⟩) (by show w.heap.size ≤ w6.heap.size + 1; omega) _
                 have Z5 : Hid (w6.heap.size + 2 ≤ (w4.setCell ⟨w6.heap.size + 1, 1, none⟩ (.slice a4 n4 c4)).heap.size) := by have := Z4.out; unfold Hid; simpa [World.setCell] using this
                 go_wp2
                 go_roundw
                 case rel => exact ⟨k + 1, a4, n4, c4, by omega, by go_num, RD5, I5, N5, R5, O5, Z5, B5.out⟩
                 case measure => simp [intOf]; omega
         refine rcL (fun K hK => ?_) ?_
         · go_simp
           refine hK.out _ _ ?_ (fun hH => ?_)
           · try dsimp only
             all_goals trivial
           clear hK K
           refine r1L 1 rfl fun K hK => ?_
           · go_simp
             refine hK.out _ _ ?_ (fun hH => ?_)
             · try dsimp only
               all_goals trivial
             clear hK K
             refine r1L 6 rfl fun K hK => ?_
             · refine q1z rfl (by rfl) _ _ _ rfl _ _ _ rfl rfl HR4.out ?_
               simp only [sz, ss]
               refine hK.out _ _ ?_ (fun hH => ?_)
               · try dsimp only
                 all_goals trivial
               clear hK K
               refine tkM 7 _ rfl rfl ?_; simp only [sz, ss]
               refine r1L 8 rfl fun K hK => ?_
               · go_simp
                 refine hK.out _ _ ?_ (fun hH => ?_)
                 · try dsimp only
                   all_goals trivial
                 clear hK K
                 refine wpAnyH_done (by kernel_rfl) ?_ _
                 clear hH
                 have N5 : Hid (Row (w4.setCell ⟨w6.heap.size + 1, 1, none⟩ (.slice a4 n4 c4)) (w6.heap.size + 1) 63 [.slice (some ⟨w6.heap.size, 0, none⟩) m m, .slice a4 n4 c4]) := N4.out.set 1 _
                 have I5 : Hid (Row (w4.setCell ⟨w6.heap.size + 1, 1, none⟩ (.slice a4 n4 c4)) w6.heap.size 45 (q0j (Lf.readI b))) := I4.out.setO (p := ⟨w6.heap.size + 1, 1, none⟩) (by show w6.heap.size + 1 ≠ _; omega) _
                 have R5 : Hid (Row (w4.setCell ⟨w6.heap.size + 1, 1, none⟩ (.slice a4 n4 c4)) (w.heap.size + 1) 63 [.slice none 0 0, .slice none 0 0]) := R4.out.setO (p := ⟨w6.heap.size + 1, 1, none⟩) (by show w6.heap.size + 1 ≠ _; omega) _
                 have RD5 : Hid (Reads (w.heap.size + 1 + 1) w.heap.size xb xo cap b (w4.setCell ⟨w6.heap.size + 1, 1, none⟩ (.slice a4 n4 c4)) (4 + 8 * m + 4 * (k + 1))) := RD4.out.keep (fun x hx => Below.heap_setCell _ _ _ _ (by show x ≠ w6.heap.size + 1; omega))
                 have O5 : Hid (OwnK 3 (w4.setCell ⟨w6.heap.size + 1, 1, none⟩ (.slice a4 n4 c4)) (w6.heap.size + 2) (.slice a4 n4 c4) (Lf.kidsR b (k + 1))) := O4.out.setB (p := ⟨w6.heap.size + 1, 1, none⟩) (by show w6.heap.size + 1 < _; omega) _
                 have B5 : Hid (Below w.heap.size w (w4.setCell ⟨w6.heap.size + 1, 1, none⟩ (.slice a4 n4 c4))) := B4.out.setCell (p := ⟨w6.heap.size + 1, 1, none⟩) (by show w.heap.size ≤ w6.heap.size + 1; omega) _
                 have Z5 : Hid (w6.heap.size + 2 ≤ (w4.setCell ⟨w6.heap.size + 1, 1, none⟩ (.slice a4 n4 c4)).heap.size) := by have := Z4.out; unfold Hid; simpa [World.setCell] using this
                 go_wp2
                 go_roundw
                 case rel => exact ⟨k + 1, a4, n4, c4, by omega, by go_num, RD5, I5, N5, R5, O5, Z5, B5.out⟩
                 case measure => simp [intOf]; omega
         exact rnL
       exact rnL
     · obtain rfl : k = m + 1 := by omega
       have hzz : ¬ ((m + 1 : Nat) : Int) < (m : Int) + 1 := by omega
       obtain ⟨t0, t1⟩ := HN.out.two
       obtain ⟨s0, s1⟩ := HR.out.two
       have g0 := HR.out.frozen 0
       have g1 := HR.out.frozen 1
       go_wp2
       refine st_retv HR.out bel (by omega) _ _ _ rfl rfl rfl Tryz.underlying63 rfl (by kernel_rfl) ?_
       intro w' K' B'
       exact ⟨_, _, rfl, OwnI.ofRow (HI.out.keep (K'.block _ (by omega))) (by show (Lf.readI b).length = m; rw [Lf.readI_len, HM.out]) (by omega) (by omega), (by show OwnK _ _ _ _ (Lf.readK b); rw [Lf.readK_kids HKd.out, HM.out]; exact (HO.out.keptL K' (by omega)).mono (by omega)), B'⟩
theorem read_yes (w : World) (xb xo cap : Nat) (b : List UInt8) (hB : IsB w (some ⟨xb, xo, none⟩) 60 b) (hk : b.getD 0 0 = 1 ∨ b.getD 0 0 = 2) :
 Calls Tryz.prog 123 #[.slice (some ⟨xb, xo, none⟩) 60 cap] w fun e w' => ∃ v v', e = .returned (.tuple #[.agg #[v, v'], .bool true]) ∧ OwnI 45 w' w.heap.size v (Lf.readN b).1 ∧ OwnK 3 w' w.heap.size v' (Lf.readN b).2 ∧ Below w.heap.size w w' := by
 rcases hk with h | h
 · exact read_leaf w xb xo cap b hB h
 · exact read_kids w xb xo cap b hB h
structure Puts (gA gB gS : Nat) (w : World) (D : List UInt8) (p : Nat) : Prop where
 len : D.length = p
 spot : Row w gA 3 [.int .i64 (p : Int)]
 box : Row w gB 53 [.slice (some ⟨gS, 0, none⟩) 60 60]
 row : Row w gS 5 (cellsOf D ++ List.replicate (60 - p) (.int .u8 0))
theorem Puts.below {gA gB gS : Nat} {w w' : World} {D : List UInt8} {p : Nat} (h : Puts gA gB gS w D p) (k : Below w.heap.size w w') : Puts gA gB gS w' D p := ⟨h.len, h.spot.below k, h.box.below k, h.row.below k⟩
theorem Puts.isB {gA gB gS : Nat} {w : World} {D : List UInt8} {p : Nat} (h : Puts gA gB gS w D p) (hp : p ≤ 60) : IsB w (some ⟨gS, 0, none⟩) 60 (D ++ List.replicate (60 - p) 0) := by
 have hl := h.len
 refine ⟨by rw [zw2, List.length_replicate]; omega, fun (e : some _ = none) => (by cases e), fun x hx j hj => ?_⟩
 simp only [Option.some.injEq] at hx
 subst hx
 rw [Addr.add_lit, Nat.zero_add]
 refine h.row.cell ?_
 rw [show cellsOf D ++ List.replicate (60 - p) (.int .u8 0) = cellsOf (D ++ List.replicate (60 - p) 0) by rw [q3X]; simp [cellsOf]]
 simp only [cellsOf, List.getElem?_map, zw3 hj, Option.map_some]
theorem splice_put {D X : List Value} {z : Value} {p s : Nat} (hD : D.length = p) (hX : X.length = s) (h : p + s ≤ 60) : splice (D ++ List.replicate (60 - p) z) p X = (D ++ X) ++ List.replicate (60 - (p + s)) z := by
 unfold splice
 subst hD hX
 rw [List.take_left, List.drop_append, List.drop_eq_nil_of_le (by omega), List.nil_append, List.drop_replicate]
 rw [show 60 - D.length - (D.length + X.length - D.length) = 60 - (D.length + X.length) by omega, List.append_assoc]
theorem qSQ (w : World) (gA gB gS : Nat) (hab : gA ≠ gB) (has : gA ≠ gS) (hbs : gB ≠ gS) (D : List UInt8) (p : Nat) (h : Puts gA gB gS w D p) (N s : Nat) (M S : Int) (hM : M = (N : Int)) (hS : S = (s : Int)) (h1 : 1 ≤ s) (h2 : s ≤ 8) (hN : N < 256 ^ s) (hf : p + s ≤ 60) :
 Calls Tryz.prog 126 #[.int .u64 M, .int .i64 S, .pointer (some ⟨gA, 0, none⟩), .pointer (some ⟨gB, 0, none⟩)] w fun e w' => e = .returned (.tuple #[]) ∧ Puts gA gB gS w' (D ++ Oct.octs N s) (p + s) ∧ Kept (fun b => b < w.heap.size ∧ b ≠ gA ∧ b ≠ gS) w w' := by
 subst hM
 subst hS
 have HP : Hid _ := h
 have HN : Hid _ := hN
 clear h hN
 go_enter Tryz.func126, Tryz.ntmps126
 go_wp2_with fail
 refine (put_ok N s _ _ rfl rfl w h1 h2 HN.out).mono ?_
 rintro e w1 ⟨rfl, ho, b1⟩
 obtain ⟨hB, -, -⟩ := q4x ho
 have HB : Hid (IsB w1 (some ⟨w.heap.size, 0, none⟩) s (Oct.octs N s)) := hB
 have HP1 : Hid _ := HP.out.below b1
 have B1 : Hid _ := b1
 have hgS : gS < w.heap.size := HP.out.row.lt
 have hgA : gA < w.heap.size := HP.out.spot.lt
 clear ho hB b1
 have hlen : (cellsOf (Oct.octs N s)).length = s := by rw [qAJ, Oct.octs_length]
 obtain ⟨w2, hrun, HR2, k2, z2⟩ := copy_run (Pr := Tryz.prog) w1.drew 53 53 3 5 Tryz.underlying53 (by kernel_rfl) (some ⟨gS, p, none⟩) (some ⟨w.heap.size, 0, none⟩) (60 - p) (60 - p) s s gS p _ 5 (HP1.out.row.keep rfl) (cellsOf (Oct.octs N s)) (by rw [hlen]; exact (Nat.min_eq_left (by omega)).symm) (fun _ => ⟨rfl, _, rfl, qIJ HB.out⟩) (by rw [hlen, zw2, qAJ, HP1.out.len, List.length_replicate]; omega) (q6j _)
 rw [hlen] at hrun
 have HR : Hid (Row w2 gS 5 (cellsOf (D ++ Oct.octs N s) ++ List.replicate (60 - (p + s)) (.int .u8 0))) := by
  rw [splice_put (by rw [qAJ]; exact HP1.out.len) hlen hf] at HR2
  rw [q3X]; exact HR2
 have HA2 : Hid (Row w2 gA 3 [.int .i64 (p : Int)]) := HP1.out.spot.keep (k2.block gA has)
 have HB2 : Hid (Row w2 gB 53 [.slice (some ⟨gS, 0, none⟩) 60 60]) := HP1.out.box.keep (k2.block gB hbs)
 have HK2 : Hid (Kept (fun b => b < w.heap.size ∧ b ≠ gA ∧ b ≠ gS) w w2) := ⟨k2.os.trans B1.out.os, k2.tape.trans B1.out.tape, k2.output.trans B1.out.output, zw1 B1.out.size k2.size, fun b hb => (k2.block b hb.2.2).trans (B1.out.block b hb.1)⟩
 have q0 := HP1.out.spot.cell (j := 0) rfl
 have q1 := HP1.out.box.cell (j := 0) rfl
 have q2 := HA2.out.cell (j := 0) rfl
 have q3 := HA2.out.frozen 0
 have hp60 : (p : Int) < 60 := by omega
 have hpc : (p : Int) ≤ 60 := by omega
 clear HR2 k2 z2 HB
 go_wp2_with fail
 go_region_with (fail)
 all_goals rw [show IntKind.i64.wrap ((p : Int) + (s : Int)) = ((p + s : Nat) : Int) by rw [IntKind.wrap_i64]; omega]
 all_goals go_wp2
 all_goals go_end0
 all_goals exact ⟨rfl, ⟨by rw [zw2, Oct.octs_length, HP.out.len], HA2.out.set 0 _, HB2.out.keep (Below.heap_setCell _ _ _ _ (fun e => hab e.symm)), HR.out.keep (Below.heap_setCell _ _ _ _ (fun e => has e.symm))⟩, HK2.out.setCell (p := ⟨gA, 0, none⟩) (fun h => h.2.1 rfl) _⟩
end Go.Proofs.YtkbmadoaomoojaaGreat
