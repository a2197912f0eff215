/-
  Facts that the proof rests on, part 13. Conditions: those that each of them names.
-/
import Derived.Lib.AppendZerosOnto
import Derived.Test.YtkbmadoaomoojaaGreatK02
import Derived.Test.YtkbmadoaomoojaaGreatK09
import Derived.Test.YtkbmadoaomoojaaGreatK10
import Derived.Test.YtkbmadoaomoojaaGreatK11
namespace Go.Proofs.YtkbmadoaomoojaaGreat
set_option maxRecDepth 20000
open Go.RowKit
set_option linter.unusedVariables false
theorem zeroCells_one {z : Value} (hz : z.cells = #[z]) (n : Nat) : Builtin.zeroCells z.cells n = (List.replicate n z).toArray := by
 apply Array.toList_inj.1
 rw [hz]
 simp [Builtin.zeroCells]
 apply List.ext_getElem
 · simp
 · intro i h1 h2
   simp [Nat.mod_one]
theorem run_append_zeros {P : Program} (w : World) (base : Nat) (t tn ty e : TypeId) (i : TypeInfo) (z : Value) (kq kn : IntKind) (bytes : Nat) (ht : P.underlying t = some (.slice e)) (htn : P.underlying tn = some (.int kn)) (hi : P.info? e = some i) (hz : i.zero = some z)
 (hsize : i.size = 1) (hby : i.bytes = bytes) (hzc : z.cells = #[z]) (h1 : z.oneCell' = true)
 (v : Value) (n : Nat) (xs : List Value) (hown : w.ownsRow base e 1 v n xs) (k : Nat) (h0 : 0 < k) (h63 : n + k ≤ maxLen) (hbytes : (n + k) * bytes ≤ 140737488355328) (hbase : base ≤ w.heap.size) :
 ∃ b d w', (Builtin.append_ #[t, tn] ty #[v, .int kq k]).run P w = .ok (.slice b (n + k) d) w' ∧ w'.ownsRow base e 1 (.slice b (n + k) d) (n + k) (xs ++ List.replicate k z) ∧ w.grownBy w' v.ownBlock := by
 subst hby
 have hsmall : n + k ≤ 9223372036854775807 := by simp only [maxLen] at h63; omega
 have hlen : (xs ++ List.replicate k z).length = (n + k) * 1 := by rw [List.length_append, hown.1, List.length_replicate]; omega
 have hkb : k * i.bytes ≤ 281474976710656 := by rw [Nat.add_mul] at hbytes; omega
 have grown : ∀ (old : Nat), ∀ (row : Option Nat),
  (w.drew.alloc (.cells (xs.toArray ++ Builtin.zeroCells z.cells k ++ Builtin.zeroCells z.cells (grownCap w (n + k) old e - (n + k))) e)).ownsRow base e 1
   (.slice (some ⟨w.heap.size, 0, none⟩) (n + k) (grownCap w (n + k) old e)) (n + k) (xs ++ List.replicate k z) ∧
  w.grownBy (w.drew.alloc (.cells (xs.toArray ++ Builtin.zeroCells z.cells k ++ Builtin.zeroCells z.cells (grownCap w (n + k) old e - (n + k))) e)) row := by
  intro old row
  have hge := grownCap_ge w (n + k) old e
  have hcm : grownCap w (n + k) old e ≤ maxLen := grownCap_le_maxLen w (n + k) old e h63
  refine ⟨⟨hlen, .inr ⟨w.heap.size, _, _, rfl, hbase, heap_alloc_new w.drew _, hge, hcm, ?_, ?_⟩⟩, ⟨rfl, rfl, rfl, by simp, fun q hq _ => by rw [heap_alloc_old w.drew _ (by exact hq)]; rfl⟩⟩
  · rw [zeroCells_one hzc, zeroCells_one hzc]
    simp only [Array.size_append, List.size_toArray, List.length_replicate, hown.1]
    omega
  · rw [zeroCells_one hzc, zeroCells_one hzc]
    simp only [Array.toList_append, List.append_assoc]
    rw [← List.append_assoc, ← hlen]
    exact List.take_left
 rcases hown.2 with ⟨rfl, rfl⟩ | ⟨g, cap, cur, rfl, hbg, hg, hnc, hcm, hcs, htake⟩
 · have hx : xs = [] := List.eq_nil_of_length_eq_zero (by simpa using hown.1)
   subst hx
   have hr := Lib.run_append_nil_zeros (P := P) w t tn ty e i z kq kn ht htn hi hz k h0 (by omega) (by omega) hkb
   have hgr := grown 0 (Value.ownBlock (.slice none 0 0))
   simp only [Nat.zero_add, List.nil_append, Array.empty_append] at hgr ⊢
   exact ⟨_, _, _, hr, hgr.1, hgr.2⟩
 · by_cases hroom : n + k ≤ cap
   · have hfit : n + k ≤ cur.size := by rw [hcs]; omega
     have hst := run_storeCells_at P g n e (List.replicate k z) 0 cur w hg (by simpa using hfit) (by intro v hv'; rw [List.eq_of_mem_replicate hv']; exact h1)
     simp only [Nat.add_zero] at hst
     have hr : (Builtin.append_ #[t, tn] ty #[.slice (some ⟨g, 0, none⟩) n cap, .int kq k]).run P w = .ok (.slice (some ⟨g, 0, none⟩) (n + k) cap) (w.setRow g (cur.toList.take n ++ List.replicate k z ++ cur.toList.drop (n + (List.replicate k z).length)).toArray) := by
      have hk : k ≠ 0 := by omega
      have hw : IntKind.i64.wrap (k : Int) = k := by rw [IntKind.wrap_i64]; omega
      have h48i : ¬ (281474976710656 < (k : Int) * (i.bytes : Int)) := by
       rw [← Int.natCast_mul]
       omega
      have hneg : ¬ ((k : Int) < 0) := by omega
      have hns : ¬ (k * i.size = 0) := Nat.mul_ne_zero hk (by omega)
      simp [Builtin.append_, run_underlying ht, run_underlying htn, sizeOf, typeInfo, zeroValue, hi, hz, asInt, asIntOf, hw, hneg, hk, hroom, h48i, hsize, zeroCells_one hzc, Addr.add_lit]
      rw [hst]
      simp
     refine ⟨_, _, _, hr, ⟨hlen, .inr ⟨g, cap, _, rfl, hbg, setRow_heap w g cur _ e _ hg, hroom, hcm, ?_, ?_⟩⟩, ⟨rfl, rfl, rfl, by simp, fun q _ hq => setRow_other w g q _ (fun e => hq (by simp [Value.ownBlock, e]))⟩⟩
     · simp only [List.size_toArray, List.length_append, List.length_take, List.length_drop, Array.length_toList, List.length_replicate]
       omega
     · have ht2 : cur.toList.take n = xs := by simpa using htake
       rw [ht2, ← hlen]
       exact List.take_left
   · have holds : ∀ j u, xs[j]? = some u → w.cell? ((⟨g, 0, none⟩ : Addr).add j) = some u := hown.cells (g := g) rfl
     have hf := run_firstCells_some (P := P) w.drew i.size n ⟨g, 0, none⟩ n cap xs (by rw [hown.1, hsize]) holds
     have hr := Lib.run_append_grow_zeros (P := P) w t tn ty e i z kq kn ht htn hi hz (some ⟨g, 0, none⟩) n cap xs hf k h0 (by omega) (by omega) (by omega) hkb (growslice_fits (by omega) hbytes)
     have hgr := grown cap (Value.ownBlock (.slice (some ⟨g, 0, none⟩) n cap))
     exact ⟨_, _, _, hr, hgr.1, hgr.2⟩
theorem refPut_fit (N s : Nat) (M S : Int) (hM : M = (N : Int)) (hS : S = (s : Int)) (w : World) (h1 : 1 ≤ s) (h2 : s ≤ 8) (h : N < 256 ^ s) (hN : N < 18446744073709551616) :
 Calls Tryz.prog 121 #[.int .u64 M, .int .i64 S] w fun e w' => ∃ a c, e = .returned (.tuple #[.slice a s c, .int .i64 0]) ∧ IsB w' a s (Oct.octs N s) ∧ (a = none → c = 0) ∧ Below w.heap.size w w' := by
 subst hM
 subst hS
 refine (refPut_in N s w h1 h2 hN).mono ?_
 rintro e w' ⟨a, len, c, rfl, ho, b⟩
 rw [Oct.putE_ok h1 h2 h]
 rw [Oct.putL_ok h1 h2 h] at ho
 obtain rfl : len = s := (owns_len ho).trans (Oct.octs_length _ _)
 obtain ⟨k1, k2, k3⟩ := owns_isB ho
 exact ⟨a, c, rfl, k1, k3, b⟩
theorem Row.owns {w : World} {g base n : Nat} {t : TypeId} {xs : List Value} (h : Row w g t xs) (hn : xs.length = n) (hb : base ≤ g) (hm : n ≤ maxLen) : w.ownsRow base t 1 (.slice (some ⟨g, 0, none⟩) n n) n xs :=
 ⟨by rw [hn, Nat.mul_one], .inr ⟨g, n, xs.toArray, rfl, hb, h.eq, Nat.le_refl _, hm, by simpa using hn, by simp [← hn]⟩⟩
theorem head_cells {l : List Itm} {ks : List Int} {n : Nat} (hn : l.length = n) (h3 : n ≤ 3) (q : UInt8) (hq : Lf.kind (l, ks) = q) : [.int .u8 (q.toNat : Int), .int .u8 (n : Int), .int .u8 0, .int .u8 0] = cellsOf (Lf.head (l, ks)) := by
 subst hn
 unfold Lf.head cellsOf
 rw [hq]
 have e : (UInt8.ofNat l.length).toNat = l.length := by rw [UInt8.toNat_ofNat']; omega
 simp [e]
theorem enc_of {n : Nod} {D : List UInt8} {m q : Nat} (hD : Lf.front n = D) (hm : D.length = m) (hq : q = 60 - m) : Crc.sealed (D ++ List.replicate q 0) = Lf.enc n := by
 subst hD hm hq
 rfl
theorem u64_fits (x : UInt64) : x.toNat < 256 ^ 8 ∧ x.toNat < 18446744073709551616 := by
 have := x.toNat_lt
 exact ⟨by simpa using this, by simpa using this⟩
set_option maxRecDepth 20000 in
set_option maxHeartbeats 4000000 in
theorem refEncode_ok (w : World) (P P' : Nat → Prop) (a a' : Option Addr) (n c n' c' : Nat) (l : List Itm) (ks : List Int) (hL : rItms.rd w P [.slice a n c] l) (hK : rKids.rd w P' [.slice a' n' c'] ks) (hok : Lf.ok (l, ks) = true) :
 Calls Tryz.prog 99 #[.agg #[.slice a n c, .slice a' n' c']] w fun e w' => ∃ b d, e = .returned (.tuple #[.slice b 64 d, .int .i64 0]) ∧ w'.ownsRow w.heap.size 5 1 (.slice b 64 d) 64 (cellsOf (Lf.enc (l, ks))) ∧ Below w.heap.size w w' := by
 have HOK : Hid _ := Lf.ok_iff.1 hok
 have HE0 : Hid (Lf.encodeE (l, ks) = 0) := if_pos hok
 have HR : Hid _ := hL
 have HK : Hid _ := hK
 have HN : Hid (l.length = n) := (rList_len hL).1
 have HN' : Hid (ks.length = n') := (rList_len hK).1
 have hn1 : 1 ≤ n := by have := HOK.out.some_; have e := HN.out; simp only at this; omega
 have hn3 : n ≤ 3 := by have := HOK.out.few; have e := HN.out; simp only at this; omega
 obtain ⟨w0, hw0, V0, b0, z0⟩ := boxedRow w 139 [.slice a n c, .slice a' n' c']
 have HV0 : Hid _ := V0
 have B0 : Hid _ := b0
 clear hL hK V0 b0 z0 hok
 go_enter Tryz.func99, Tryz.ntmps99
 obtain ⟨r0, r1⟩ := HV0.out.two
 go_wp2_with fail
 refine (refCheck_u _ P P' a a' n c n' c' l ks (Rep.below HR.out B0.out) (Rep.below HK.out B0.out)).mono ?_
 rintro e w1 ⟨rfl, b1⟩
 rw [HE0.out]
 have HV1 : Hid _ := HV0.out.below b1
 have B1 : Hid _ := on B0.out b1
 clear r0 r1 b1
 obtain ⟨r0, r1⟩ := HV1.out.two
 by_cases hl : n' = 0
 · have hz1 : ¬ (n' : Int) > 0 := by omega
   have hz0 : ((n' : Int) == 0) = true := beq_iff_eq.2 (by omega)
   have hzd : decide (0 < n') = false := decide_eq_false (by omega)
   have HLf : Hid (Lf.isLeaf (l, ks) = true) := Lf.leaf_iff.2 (by rw [HN'.out]; exact hl)
   clear hl
   obtain ⟨w2, hw2, V2, b2, z2⟩ := boxedRow w1 5 [.int .u8 1, .int .u8 (n : Int), .int .u8 0, .int .u8 0]
   have B2 : Hid _ := b2
   have HO2 : Hid (w2.ownsRow w1.heap.size 5 1 (.slice (some ⟨w1.heap.size, 0, none⟩) 4 4) 4 (cellsOf (Lf.head (l, ks)))) := by
    rw [← head_cells HN.out hn3 1 (show Lf.kind (l, ks) = 1 by unfold Lf.kind; rw [HLf.out]; rfl)]
    exact V2.owns rfl (Nat.le_refl _) (by decide)
   clear r0 r1
   obtain ⟨r2, r3⟩ := (HV1.out.below b2).two
   obtain ⟨r0, r1⟩ := HV1.out.two
   clear V2 b2 z2
   go_wp2
   clear r0 r1 r2 r3
   go_loopw [4, 5] (fun b i wr => ∃ (k m : Nat) (x : Option Addr) (d : Nat), k ≤ n ∧ i = .int .i64 k ∧ b = .slice x m d ∧ m ≤ 28 ∧ Hid (m = 4 + 8 * k) ∧ Hid (wr.ownsRow w1.heap.size 5 1 (.slice x m d) m (cellsOf (Lf.head (l, ks) ++ (l.take k).flatMap Lf.key8))) ∧ Below w1.heap.size w1 wr) (fun _ i _ => n - (intOf i).toNat)
   case atStart => exact ⟨0, 4, _, 4, Nat.zero_le _, rfl, rfl, by omega, rfl, by rw [List.take_zero, List.flatMap_nil, List.append_nil]; exact HO2.out, B2.out⟩
   case round =>
    obtain ⟨k, m, x, d, hk, rfl, rfl, hm, HM, HO, bel⟩ := hrel
    have BW : Hid _ := on B1.out bel
    obtain ⟨r0, r1⟩ := (HV1.out.below bel).two
    by_cases hlt : k < n
    · have hkl : k < l.length := by rw [HN.out]; exact hlt
      obtain ⟨g, off, rfl, -, -, hat⟩ := rItms_at (Rep.below HR.out BW.out) (by omega)
      obtain ⟨c0, c1⟩ := hat k hkl
      have HB1 : Hid _ := bel
      have hkz : (k : Int) < (n : Int) := by omega
      clear hat bel
      go_wp2_with fail
      refine (refPut_fit l[k].1.toNat 8 _ _ rfl rfl _ (by decide) (by decide) (u64_fits _).1 (u64_fits _).2).mono ?_
      rintro e w3 ⟨xa, xc, rfl, hB, hnil, b3⟩
      have HB : Hid (IsB _ _ _ _) := hB
      have HNil : Hid _ := hnil
      have HO3 : Hid (w3.ownsRow w1.heap.size 5 1 (.slice x m d) m (cellsOf (Lf.head (l, ks) ++ (l.take k).flatMap Lf.key8))) := owns_below HO.out b3
      have HB3 : Hid _ := on HB1.out b3
      clear hB hnil b3 r0 r1 c0
      go_wp2_with (at_builtin; refine append_two rfl _ _ rfl w1.heap.size _ m _ rfl HO3.out _ 8 _ _ rfl HB.out HNil.out (by omega) HB3.out.size ?_)
      intro b4 d4 w4 ho4 hg4
      have HB4 : Hid (Below w1.heap.size w1 w4) := HB3.out.grown hg4 HB3.out.size (own_base HO3.out)
      have HO4 : Hid (w4.ownsRow w1.heap.size 5 1 (.slice b4 (m + 8) d4) (m + 8) (cellsOf (Lf.head (l, ks) ++ (l.take (k + 1)).flatMap Lf.key8))) := by
       rw [Lf.flat_next _ hkl]
       unfold Hid
       try simp only [List.append_assoc]
       exact ho4
      have HM4 : Hid (m + 8 = 4 + 8 * (k + 1)) := by have := HM.out; unfold Hid; omega
      have hm4 : m + 8 ≤ 28 := by have := HM4.out; omega
      clear ho4 hg4 HO3 HB3 HB HNil
      go_wp2
      go_roundw
      case rel => exact ⟨k + 1, m + 8, b4, d4, by omega, by go_num, rfl, hm4, HM4, HO4, HB4.out⟩
      case measure => simp [intOf]; omega
    · obtain rfl : n = k := by omega
      rw [List.take_of_length_le (by rw [HN.out]; exact Nat.le_refl _)] at HO
      go_wp2
      go_loopw [4, 8] (fun b i wr => ∃ (k m : Nat) (x : Option Addr) (d : Nat), k ≤ n ∧ i = .int .i64 k ∧ b = .slice x m d ∧ m ≤ 52 ∧ Hid (m = 4 + 8 * n + 8 * k) ∧ Hid (wr.ownsRow w1.heap.size 5 1 (.slice x m d) m (cellsOf (Lf.head (l, ks) ++ l.flatMap Lf.key8 ++ (l.take k).flatMap Lf.val8))) ∧ Below w1.heap.size w1 wr) (fun _ i _ => n - (intOf i).toNat)
      case atStart => exact ⟨0, m, x, d, Nat.zero_le _, rfl, rfl, by omega, HM, by rw [List.take_zero, List.flatMap_nil, List.append_nil]; exact HO, bel⟩
      case round =>
       obtain ⟨k, m, x, d, hk, rfl, rfl, hm, HM, HO, bel⟩ := hrel
       have BW : Hid _ := on B1.out bel
       obtain ⟨r0, r1⟩ := (HV1.out.below bel).two
       by_cases hlt : k < n
       · have hkl : k < l.length := by rw [HN.out]; exact hlt
         obtain ⟨g, off, rfl, -, -, hat⟩ := rItms_at (Rep.below HR.out BW.out) (by omega)
         obtain ⟨c0, c1⟩ := hat k hkl
         have HB1 : Hid _ := bel
         have hkz : (k : Int) < (n : Int) := by omega
         clear hat bel
         go_wp2_with fail
         refine (refPut_fit l[k].2.toNat 8 _ _ rfl rfl _ (by decide) (by decide) (u64_fits _).1 (u64_fits _).2).mono ?_
         rintro e w3 ⟨xa, xc, rfl, hB, hnil, b3⟩
         have HB : Hid (IsB _ _ _ _) := hB
         have HNil : Hid _ := hnil
         have HO3 : Hid (w3.ownsRow w1.heap.size 5 1 (.slice x m d) m (cellsOf (Lf.head (l, ks) ++ l.flatMap Lf.key8 ++ (l.take k).flatMap Lf.val8))) := owns_below HO.out b3
         have HB3 : Hid _ := on HB1.out b3
         clear hB hnil b3 r0 r1 c0
         go_wp2_with (at_builtin; refine append_two rfl _ _ rfl w1.heap.size _ m _ rfl HO3.out _ 8 _ _ rfl HB.out HNil.out (by omega) HB3.out.size ?_)
         intro b4 d4 w4 ho4 hg4
         have HB4 : Hid (Below w1.heap.size w1 w4) := HB3.out.grown hg4 HB3.out.size (own_base HO3.out)
         have HO4 : Hid (w4.ownsRow w1.heap.size 5 1 (.slice b4 (m + 8) d4) (m + 8) (cellsOf (Lf.head (l, ks) ++ l.flatMap Lf.key8 ++ (l.take (k + 1)).flatMap Lf.val8))) := by
          rw [Lf.flat_next _ hkl]
          unfold Hid
          try simp only [List.append_assoc]
          exact ho4
         have HM4 : Hid (m + 8 = 4 + 8 * n + 8 * (k + 1)) := by have := HM.out; unfold Hid; omega
         have hm4 : m + 8 ≤ 52 := by have := HM4.out; omega
         clear ho4 hg4 HO3 HB3 HB HNil
         go_wp2
         go_roundw
         case rel => exact ⟨k + 1, m + 8, b4, d4, by omega, by go_num, rfl, hm4, HM4, HO4, HB4.out⟩
         case measure => simp [intOf]; omega
       · obtain rfl : n = k := by omega
         rw [List.take_of_length_le (by rw [HN.out]; exact Nat.le_refl _)] at HO
         clear r0 r1
         obtain ⟨r0, r1⟩ := (HV1.out.below bel).two
         go_wp2
         obtain ⟨wq, hwq⟩ : ∃ wq, wq = wr := ⟨_, rfl⟩
         subst hwq
         go_loopw [4, 11] (fun b i wr => i = .int .i64 0 ∧ b = .slice x m d ∧ wr = wq) (fun _ i _ => 0)
         case atStart => exact ⟨rfl, rfl, rfl⟩
         case round =>
          obtain ⟨rfl, rfl, rfl⟩ := hrel
          have hfin : True := trivial
          have hzz : ¬ (0 : Int) < (n' : Int) := by omega
          obtain ⟨q, hq⟩ : ∃ q, q = 60 - m := ⟨_, rfl⟩
          have hq0 : 0 < q := by omega
          have hqz : (60 : Int) - (m : Int) = (q : Int) := by omega
          have HQ : Hid _ := hq
          have hqm : m + q ≤ 64 := by omega
          have HQ60 : Hid (m + q = 60) := by unfold Hid; omega
          clear hq
          obtain ⟨i0, hi, hz0, hz1', hz2⟩ := info_parts info_u8
          obtain ⟨b5, d5, w5, hr5, ho5, bg5⟩ := run_append_zeros (P := Tryz.prog) wr w1.heap.size 53 3 53 5 i0 (.int .u8 0) .i64 .i64 1 Tryz.underlying53 Tryz.underlying3 hi hz0 hz1' hz2 rfl rfl _ m _ HO.out q hq0 (by unfold maxLen; omega) (by omega) bel.size
          have HR5 : Hid _ := hr5
          have BW5 : Hid (Below w1.heap.size w1 w5) := bel.grown bg5 bel.size (fun k hk => own_base HO.out k hk)
          have HO5 : Hid (w5.ownsRow w1.heap.size 5 1 (.slice b5 (m + q) d5) (m + q) (cellsOf ((Lf.head (l, ks) ++ l.flatMap Lf.key8 ++ l.flatMap Lf.val8) ++ List.replicate q 0))) := by
           rw [cellsOf_append, show cellsOf (List.replicate q 0) = List.replicate q (.int .u8 0) by simp [cellsOf]]
           exact ho5
          clear i0 hi hz0 hz1' hz2 hr5 ho5 bg5
          go_wp2_with (at_builtin; refine Lib.wpList_append_run _ rfl _ _ _ _ rfl _ _ rfl rfl _ _ HR5.out ?_)
          obtain ⟨hB5, hc5, hn5⟩ := owns_isB HO5.out
          refine (refSeal_u _ _ (m + q) _ _ (by omega) hn5 hB5).mono ?_
          rintro ey w6 ⟨b6, d6, rfl, ho6, bw6⟩
          rw [enc_of (n := (l, ks)) (D := (Lf.head (l, ks) ++ l.flatMap Lf.key8 ++ l.flatMap Lf.val8)) (m := m) (by unfold Lf.front Lf.rest; rw [HLf.out]; rfl) (by rw [List.length_append, List.length_append, Lf.flat_len Lf.key8_len, Lf.flat_len Lf.val8_len, HM.out, HN.out]; rfl) HQ.out] at ho6
          have HO6 : Hid _ := owns_mono ho6 (on B1.out BW5.out).size
          clear ho6 HR5 HO5 hB5 hn5 hc5
          rw [HQ60.out] at HO6
          go_wp2
          go_ret2
          exact ⟨b6, d6, by rw [HQ60.out]; rfl, HO6.out, on (on B1.out BW5.out) bw6⟩
 · have hz1 : (n' : Int) > 0 := by omega
   have hz0 : ((n' : Int) == 0) = false := beq_eq_false_iff_ne.2 (by omega)
   have hzd : decide (0 < n') = true := decide_eq_true (by omega)
   have HLf : Hid (Lf.isLeaf (l, ks) = false) := by
    unfold Hid
    rw [Bool.eq_false_iff]
    intro h
    exact hl (by rw [← HN'.out]; exact Lf.leaf_iff.1 h)
   have HKl : Hid (n' = n + 1) := by have := HOK.out.kids.resolve_left (by rw [HLf.out]; decide); have e1 := HN.out; have e2 := HN'.out; simp only at this; unfold Hid; omega
   have hn4 : n' ≤ 4 := by have := HKl.out; omega
   clear hl
   obtain ⟨w2, hw2, V2, b2, z2⟩ := boxedRow w1 5 [.int .u8 1, .int .u8 (n : Int), .int .u8 0, .int .u8 0]
   have B2 : Hid (Below w1.heap.size w1 (w2.setCell ⟨w1.heap.size, 0, none⟩ (.int .u8 2))) := b2.setCell (Nat.le_refl _) _
   have HO2 : Hid ((w2.setCell ⟨w1.heap.size, 0, none⟩ (.int .u8 2)).ownsRow w1.heap.size 5 1 (.slice (some ⟨w1.heap.size, 0, none⟩) 4 4) 4 (cellsOf (Lf.head (l, ks)))) := by
    rw [← head_cells HN.out hn3 2 (show Lf.kind (l, ks) = 2 by unfold Lf.kind; rw [HLf.out]; rfl)]
    exact (V2.set 0 (.int .u8 2)).owns rfl (Nat.le_refl _) (by decide)
   have f0 := V2.frozen 0
   have k0 := V2.cell (j := 0) rfl
   clear r0 r1
   obtain ⟨r2, r3⟩ := (HV1.out.below b2).two
   obtain ⟨r0, r1⟩ := HV1.out.two
   clear V2 b2 z2
   go_wp2
   clear r0 r1 r2 r3 k0 f0
   go_loopw [4, 5] (fun b i wr => ∃ (k m : Nat) (x : Option Addr) (d : Nat), k ≤ n ∧ i = .int .i64 k ∧ b = .slice x m d ∧ m ≤ 28 ∧ Hid (m = 4 + 8 * k) ∧ Hid (wr.ownsRow w1.heap.size 5 1 (.slice x m d) m (cellsOf (Lf.head (l, ks) ++ (l.take k).flatMap Lf.key8))) ∧ Below w1.heap.size w1 wr) (fun _ i _ => n - (intOf i).toNat)
   case atStart => exact ⟨0, 4, _, 4, Nat.zero_le _, rfl, rfl, by omega, rfl, by rw [List.take_zero, List.flatMap_nil, List.append_nil]; exact HO2.out, B2.out⟩
   case round =>
    obtain ⟨k, m, x, d, hk, rfl, rfl, hm, HM, HO, bel⟩ := hrel
    have BW : Hid _ := on B1.out bel
    obtain ⟨r0, r1⟩ := (HV1.out.below bel).two
    by_cases hlt : k < n
    · have hkl : k < l.length := by rw [HN.out]; exact hlt
      obtain ⟨g, off, rfl, -, -, hat⟩ := rItms_at (Rep.below HR.out BW.out) (by omega)
      obtain ⟨c0, c1⟩ := hat k hkl
      have HB1 : Hid _ := bel
      have hkz : (k : Int) < (n : Int) := by omega
      clear hat bel
      go_wp2_with fail
      refine (refPut_fit l[k].1.toNat 8 _ _ rfl rfl _ (by decide) (by decide) (u64_fits _).1 (u64_fits _).2).mono ?_
      rintro e w3 ⟨xa, xc, rfl, hB, hnil, b3⟩
      have HB : Hid (IsB _ _ _ _) := hB
      have HNil : Hid _ := hnil
      have HO3 : Hid (w3.ownsRow w1.heap.size 5 1 (.slice x m d) m (cellsOf (Lf.head (l, ks) ++ (l.take k).flatMap Lf.key8))) := owns_below HO.out b3
      have HB3 : Hid _ := on HB1.out b3
      clear hB hnil b3 r0 r1 c0
      go_wp2_with (at_builtin; refine append_two rfl _ _ rfl w1.heap.size _ m _ rfl HO3.out _ 8 _ _ rfl HB.out HNil.out (by omega) HB3.out.size ?_)
      intro b4 d4 w4 ho4 hg4
      have HB4 : Hid (Below w1.heap.size w1 w4) := HB3.out.grown hg4 HB3.out.size (own_base HO3.out)
      have HO4 : Hid (w4.ownsRow w1.heap.size 5 1 (.slice b4 (m + 8) d4) (m + 8) (cellsOf (Lf.head (l, ks) ++ (l.take (k + 1)).flatMap Lf.key8))) := by
       rw [Lf.flat_next _ hkl]
       unfold Hid
       try simp only [List.append_assoc]
       exact ho4
      have HM4 : Hid (m + 8 = 4 + 8 * (k + 1)) := by have := HM.out; unfold Hid; omega
      have hm4 : m + 8 ≤ 28 := by have := HM4.out; omega
      clear ho4 hg4 HO3 HB3 HB HNil
      go_wp2
      go_roundw
      case rel => exact ⟨k + 1, m + 8, b4, d4, by omega, by go_num, rfl, hm4, HM4, HO4, HB4.out⟩
      case measure => simp [intOf]; omega
    · obtain rfl : n = k := by omega
      rw [List.take_of_length_le (by rw [HN.out]; exact Nat.le_refl _)] at HO
      go_wp2
      obtain ⟨wq, hwq⟩ : ∃ wq, wq = wr := ⟨_, rfl⟩
      subst hwq
      go_loopw [4, 8] (fun b i wr => i = .int .i64 0 ∧ b = .slice x m d ∧ wr = wq) (fun _ i _ => 0)
      case atStart => exact ⟨rfl, rfl, rfl⟩
      case round =>
       obtain ⟨rfl, rfl, rfl⟩ := hrel
       go_wp2
       go_loopw [4, 11] (fun b i wr => ∃ (k m : Nat) (x : Option Addr) (d : Nat), k ≤ n' ∧ i = .int .i64 k ∧ b = .slice x m d ∧ m ≤ 44 ∧ Hid (m = 4 + 8 * n + 4 * k) ∧ Hid (wr.ownsRow w1.heap.size 5 1 (.slice x m d) m (cellsOf (Lf.head (l, ks) ++ l.flatMap Lf.key8 ++ (ks.take k).flatMap Lf.kid4))) ∧ Below w1.heap.size w1 wr) (fun _ i _ => n' - (intOf i).toNat)
       case atStart => exact ⟨0, m, x, d, Nat.zero_le _, rfl, rfl, by omega, HM, by rw [List.take_zero, List.flatMap_nil, List.append_nil]; exact HO, bel⟩
       case round =>
        obtain ⟨k, m, x, d, hk, rfl, rfl, hm, HM, HO, bel⟩ := hrel
        have BW : Hid _ := on B1.out bel
        obtain ⟨r0, r1⟩ := (HV1.out.below bel).two
        by_cases hlt : k < n'
        · have hkl : k < ks.length := by rw [HN'.out]; exact hlt
          obtain ⟨g, off, rfl, -, -, hat⟩ := rKids_at (Rep.below HK.out BW.out) (by omega)
          obtain ⟨c0, -, -⟩ := hat k hkl
          have hpg := HOK.out.pages ks[k] (List.getElem_mem hkl)
          obtain ⟨q, hq⟩ := Int.eq_ofNat_of_zero_le (show 0 ≤ ks[k] by omega)
          have hq1 : q ≤ 2048 := by omega
          have HQ : Hid (Lf.kid4 ks[k] = Oct.octs q 4) := by unfold Hid Lf.kid4; rw [hq]; rfl
          rw [show ks[k] = (q : Int) from hq] at c0
          clear hq hpg
          have HB1 : Hid _ := bel
          have hkz : (k : Int) < (n' : Int) := by omega
          clear hat bel
          go_wp2_with fail
          refine (refPut_fit q 4 _ _ rfl rfl _ (by decide) (by decide) (Nat.lt_of_le_of_lt hq1 (by decide)) (by omega)).mono ?_
          rintro e w3 ⟨xa, xc, rfl, hB, hnil, b3⟩
          have HB : Hid (IsB _ _ _ _) := hB
          have HNil : Hid _ := hnil
          have HO3 : Hid (w3.ownsRow w1.heap.size 5 1 (.slice x m d) m (cellsOf (Lf.head (l, ks) ++ l.flatMap Lf.key8 ++ (ks.take k).flatMap Lf.kid4))) := owns_below HO.out b3
          have HB3 : Hid _ := on HB1.out b3
          clear hB hnil b3 r0 r1 c0
          go_wp2_with (at_builtin; refine append_two rfl _ _ rfl w1.heap.size _ m _ rfl HO3.out _ 4 _ _ rfl HB.out HNil.out (by omega) HB3.out.size ?_)
          intro b4 d4 w4 ho4 hg4
          have HB4 : Hid (Below w1.heap.size w1 w4) := HB3.out.grown hg4 HB3.out.size (own_base HO3.out)
          have HO4 : Hid (w4.ownsRow w1.heap.size 5 1 (.slice b4 (m + 4) d4) (m + 4) (cellsOf (Lf.head (l, ks) ++ l.flatMap Lf.key8 ++ (ks.take (k + 1)).flatMap Lf.kid4))) := by
           rw [Lf.flat_next _ hkl, HQ.out]
           unfold Hid
           try simp only [List.append_assoc]
           exact ho4
          have HM4 : Hid (m + 4 = 4 + 8 * n + 4 * (k + 1)) := by have := HM.out; unfold Hid; omega
          have hm4 : m + 4 ≤ 44 := by have := HM4.out; have := HKl.out; omega
          clear ho4 hg4 HO3 HB3 HB HNil
          go_wp2
          go_roundw
          case rel => exact ⟨k + 1, m + 4, b4, d4, by omega, by go_num, rfl, hm4, HM4, HO4, HB4.out⟩
          case measure => simp [intOf]; omega
        · obtain rfl : n' = k := by omega
          rw [List.take_of_length_le (by rw [HN'.out]; exact Nat.le_refl _)] at HO
          have hmm : m ≤ 44 := hm
          obtain ⟨q, hq⟩ : ∃ q, q = 60 - m := ⟨_, rfl⟩
          have hq0 : 0 < q := by omega
          have hqz : (60 : Int) - (m : Int) = (q : Int) := by omega
          have HQ : Hid _ := hq
          have hqm : m + q ≤ 64 := by omega
          have HQ60 : Hid (m + q = 60) := by unfold Hid; omega
          clear hq
          obtain ⟨i0, hi, hz0, hz1', hz2⟩ := info_parts info_u8
          obtain ⟨b5, d5, w5, hr5, ho5, bg5⟩ := run_append_zeros (P := Tryz.prog) wr w1.heap.size 53 3 53 5 i0 (.int .u8 0) .i64 .i64 1 Tryz.underlying53 Tryz.underlying3 hi hz0 hz1' hz2 rfl rfl _ m _ HO.out q hq0 (by unfold maxLen; omega) (by omega) bel.size
          have HR5 : Hid _ := hr5
          have BW5 : Hid (Below w1.heap.size w1 w5) := bel.grown bg5 bel.size (fun k hk => own_base HO.out k hk)
          have HO5 : Hid (w5.ownsRow w1.heap.size 5 1 (.slice b5 (m + q) d5) (m + q) (cellsOf ((Lf.head (l, ks) ++ l.flatMap Lf.key8 ++ ks.flatMap Lf.kid4) ++ List.replicate q 0))) := by
           rw [cellsOf_append, show cellsOf (List.replicate q 0) = List.replicate q (.int .u8 0) by simp [cellsOf]]
           exact ho5
          clear i0 hi hz0 hz1' hz2 hr5 ho5 bg5
          go_wp2_with (at_builtin; refine Lib.wpList_append_run _ rfl _ _ _ _ rfl _ _ rfl rfl _ _ HR5.out ?_)
          obtain ⟨hB5, hc5, hn5⟩ := owns_isB HO5.out
          refine (refSeal_u _ _ (m + q) _ _ (by omega) hn5 hB5).mono ?_
          rintro ey w6 ⟨b6, d6, rfl, ho6, bw6⟩
          rw [enc_of (n := (l, ks)) (D := (Lf.head (l, ks) ++ l.flatMap Lf.key8 ++ ks.flatMap Lf.kid4)) (m := m) (by unfold Lf.front Lf.rest; rw [HLf.out]; rfl) (by rw [List.length_append, List.length_append, Lf.flat_len Lf.key8_len, Lf.flat_len Lf.kid4_len, HM.out, HN.out, HN'.out]; rfl) HQ.out] at ho6
          have HO6 : Hid _ := owns_mono ho6 (on B1.out BW5.out).size
          clear ho6 HR5 HO5 hB5 hn5 hc5
          rw [HQ60.out] at HO6
          go_wp2
          go_ret2
          exact ⟨b6, d6, by rw [HQ60.out]; rfl, HO6.out, on (on B1.out BW5.out) bw6⟩
set_option maxHeartbeats 2000000 in
theorem refEncode_no (w : World) (P P' : Nat → Prop) (a a' : Option Addr) (n c n' c' : Nat) (l : List Itm) (ks : List Int) (hL : rItms.rd w P [.slice a n c] l) (hK : rKids.rd w P' [.slice a' n' c'] ks) (hok : Lf.ok (l, ks) = false) :
 Calls Tryz.prog 99 #[.agg #[.slice a n c, .slice a' n' c']] w fun e w' => e = .returned (.tuple #[.slice none 0 0, .int .i64 9]) ∧ Below w.heap.size w w' := by
 have HE0 : Hid (Lf.encodeE (l, ks) = 9) := by unfold Hid Lf.encodeE; rw [hok]; rfl
 have HR : Hid _ := hL
 have HK : Hid _ := hK
 obtain ⟨w0, hw0, V0, b0, z0⟩ := boxedRow w 139 [.slice a n c, .slice a' n' c']
 have HV0 : Hid _ := V0
 have B0 : Hid _ := b0
 clear hL hK V0 b0 z0 hok
 go_enter Tryz.func99, Tryz.ntmps99
 obtain ⟨r0, r1⟩ := HV0.out.two
 go_wp2_with fail
 refine (refCheck_u _ P P' a a' n c n' c' l ks (Rep.below HR.out B0.out) (Rep.below HK.out B0.out)).mono ?_
 rintro e w1 ⟨rfl, b1⟩
 rw [HE0.out]
 have B1 : Hid _ := on B0.out b1
 clear r0 r1 b1
 go_wp2
 go_ret2
 exact ⟨rfl, B1.out⟩
theorem refEncode_u (w : World) (P P' : Nat → Prop) (a a' : Option Addr) (n c n' c' : Nat) (l : List Itm) (ks : List Int) (hL : rItms.rd w P [.slice a n c] l) (hK : rKids.rd w P' [.slice a' n' c'] ks) :
 Calls Tryz.prog 99 #[.agg #[.slice a n c, .slice a' n' c']] w fun e w' => ∃ b m d, e = .returned (.tuple #[.slice b m d, .int .i64 (Lf.encodeE (l, ks))]) ∧ w'.ownsRow w.heap.size 5 1 (.slice b m d) m (cellsOf (Lf.encodeL (l, ks))) ∧ Below w.heap.size w w' := by
 cases h : Lf.ok (l, ks)
 · refine (refEncode_no w P P' a a' n c n' c' l ks hL hK h).mono ?_
   rintro e w' ⟨rfl, b1⟩
   refine ⟨none, 0, 0, ?_, ?_, b1⟩
   · unfold Lf.encodeE; rw [h]; rfl
   · unfold Lf.encodeL; rw [h]; exact own_nil _ _
 · refine (refEncode_ok w P P' a a' n c n' c' l ks hL hK h).mono ?_
   rintro e w' ⟨b, d, rfl, ho, b1⟩
   refine ⟨b, 64, d, ?_, ?_, b1⟩
   · unfold Lf.encodeE; rw [h]; rfl
   · unfold Lf.encodeL; rw [h]; exact ho
end Go.Proofs.YtkbmadoaomoojaaGreat
