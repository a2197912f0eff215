/-
  Facts that the proof rests on, part 13. Conditions: those that each of them names.
-/
import Derived.Test.YtoophkmnppoppaaM08
import Derived.Test.YtoophkmnppoppaaM11
namespace Go.Proofs.Ytoophkmnppoppaa
set_option maxHeartbeats 16000000
open Go.RowKit
set_option linter.unusedVariables false
theorem DiskAt.keepK {w w' : World} {base g : Nat} {vs : List Value} {d : Dsk} (h : DiskAt w base g vs d) (hk : ∀ b, b < w.heap.size → w'.heap[b]? = w.heap[b]?) (hg : g < w.heap.size) : DiskAt w' base g vs d :=
 ⟨h.row.keep (hk g hg), h.len, fun j h1 h2 => q6J (h.each j h1 h2) (fun k _ hl _ => hk k hl), h.few⟩
theorem DiskAt.keepB {w w' : World} {base g : Nat} {vs : List Value} {d : Dsk} (h : DiskAt w base g vs d) (hk : ∀ b, g ≤ b → b < w.heap.size → w'.heap[b]? = w.heap[b]?) (hg : g < w.heap.size) (hb : g ≤ base := by omega) : DiskAt w' base g vs d :=
 ⟨h.row.keep (hk g (Nat.le_refl _) hg), h.len, fun j h1 h2 => q6J (h.each j h1 h2) (fun k hv hl _ => hk k (Nat.le_trans hb ((h.each j h1 h2).lt k hv).1) hl), h.few⟩
theorem kept3 (w : World) (b : Nat) (u0 u1 u2 : Value) : Kept (· ≠ b) w (((w.setCell ⟨b, 0, none⟩ u0).setCell ⟨b, 1, none⟩ u1).setCell ⟨b, 2, none⟩ u2) :=
 (((Kept.refl _ w).setCell (p := ⟨b, 0, none⟩) (fun h => h rfl) u0).setCell (p := ⟨b, 1, none⟩) (fun h => h rfl) u1).setCell (p := ⟨b, 2, none⟩) (fun h => h rfl) u2
theorem Owns.low {α : Type} {A : Rep α} {e : TypeId} {w : World} {base base' : Nat} {v : Value} {l : List α} (h : Owns A e w base v l) (hb : base' ≤ base) : Owns A e w base' v l := by
 obtain ⟨xs, h1, h2⟩ := h
 exact ⟨xs, qAj h1 hb, q1j (fun b h _ => ⟨Nat.le_trans hb h.1, h.2⟩) h2⟩
theorem q5x : q6q Try.prog 29 66 rSnp := qBQ (z := .agg #[.int .i64 0, .string ByteArray.empty, .slice none 0 0]) Try.underlying29 (by kernel_rfl) rfl rfl rfl (by decide)
theorem q4j {w : World} {P : Nat → Prop} {id : Int} {nm : ByteArray} {v : Value} {d : Dsk} (h1 : -9223372036854775808 ≤ id ∧ id ≤ 9223372036854775807) (h2 : nm.size ≤ maxLen) (h : rSectors.rd w P [v] d) : rSnp.rd w P [.int .i64 id, .string nm, v] (id, nm, d) :=
 ⟨[.int .i64 id], [.string nm, v], rfl, ⟨rfl, h1⟩, [.string nm], [v], rfl, ⟨rfl, h2⟩, h⟩
theorem q6x (w : World) (id : Int) (nm : ByteArray) (v : Value) (t : TypeId) : ∀ j u, ([.int .i64 id, .string nm, v] : List Value)[j]? = some u → (w.alloc (.cells #[.int .i64 id, .string nm, v] t)).cell? ((⟨w.heap.size, 0, none⟩ : Addr).add j) = some u := by
 intro j u hj
 rw [Addr.add_lit, Nat.zero_add]
 exact (q9j w t [.int .i64 id, .string nm, v]).cell hj
theorem DiskAt.rd {w : World} {g n : Nat} {vs : List Value} {d : Dsk} (h : DiskAt w (g + 1) g vs d) (hn : d.length = n) (hb : n * 24 ≤ 140737488351232) (hg : g < w.heap.size) : rSectors.rd w (fun b => g ≤ b) [.slice (some ⟨g, 0, none⟩) n n] d := by
 refine ⟨_, _, _, rfl, hn, Nat.le_refl _, (fun e => by cases e), hb, fun x hx j hj => ?_⟩
 simp only [Option.some.injEq] at hx
 subst hx
 have hj' : j < vs.length := by rw [h.len]; exact hj
 obtain ⟨ho, hv⟩ : w.ownsRow (g + 1) 5 1 vs[j] d[j].length (cellsOf d[j]) ∧ ∃ a m c, vs[j] = .slice a m c ∧ m = d[j].length := by
  refine ⟨h.each j hj' hj, ?_⟩
  rcases (h.each j hj' hj).2 with ⟨e, e0⟩ | ⟨b, cap, cur, e, -⟩
  · exact ⟨none, 0, 0, e, e0.symm⟩
  · exact ⟨_, _, _, e, rfl⟩
 obtain ⟨a, m, c, e, rfl⟩ := hv
 rw [e] at ho
 refine ⟨Nat.le_refl g, [.slice a d[j].length c], rBytes.weaken (q4q ho (h.few _ (List.getElem_mem hj))) (fun b hb _ => Nat.le_of_succ_le hb), fun r u hu => ?_⟩
 have hr : r = 0 ∧ u = .slice a d[j].length c := by
  match r, hu with
  | 0, hu => simp at hu; exact ⟨rfl, hu.symm⟩
 obtain ⟨rfl, rfl⟩ := hr
 rw [Addr.add_lit, Nat.zero_add, Nat.add_zero, show j * rBytes.size = j from Nat.mul_one j]
 refine h.row.cell ?_
 rw [List.getElem?_eq_getElem hj', e]
theorem Row.whole3 {w : World} {b : Nat} {t : TypeId} {x0 x1 x2 : Value} (V : Row w b t [x0, x1, x2]) (u0 u1 u2 : Value) :
 ∃ w', ((w.setCell ⟨b, 0, none⟩ u0).setCell ⟨b, 1, none⟩ u1).setCell ⟨b, 2, none⟩ u2 = w' ∧ Row w' b t [u0, u1, u2] ∧ Kept (· ≠ b) w w' :=
 ⟨_, rfl, ((V.set 0 u0).set 1 u1).set 2 u2, (((Kept.refl _ w).setCell (p := ⟨b, 0, none⟩) (fun h => h rfl) u0).setCell (p := ⟨b, 1, none⟩) (fun h => h rfl) u1).setCell (p := ⟨b, 2, none⟩) (fun h => h rfl) u2⟩
set_option maxRecDepth 20000 in
theorem copiedS_u (w : World) (P : Nat → Prop) (a b : Option Addr) (n c m d : Nat) (s : Sta) (hS : rSta.rd w P [.slice a n c, .slice b m d, .int .i64 s.2.2] s) (hm8 : m ≤ 8) :
 Calls Try.prog 29 #[.agg #[.slice a n c, .slice b m d, .int .i64 s.2.2]] w fun e w' => ∃ g vs v, e = .returned (.agg #[.slice (some ⟨g, 0, none⟩) n n, v, .int .i64 s.2.2]) ∧ w.heap.size ≤ g ∧ g < w'.heap.size ∧ DiskAt w' (g + 1) g vs s.1 ∧ Owns rSnp 66 w' (g + 1) v s.2.1 ∧ Below w.heap.size w w' := by
 obtain ⟨a', n', c', b', m', d', e, hD, hL, hi⟩ := q0X hS
 simp only [List.cons.injEq, Value.slice.injEq, and_true] at e
 obtain ⟨⟨rfl, rfl, rfl⟩, rfl, rfl, rfl⟩ := e
 obtain ⟨D, l, next⟩ := s
 simp only at hD hL hi ⊢
 have HM : Hid (l.length = m) := (q0Q hL).1
 obtain ⟨w0, hw0, V0, b0, z0⟩ := q0q w 31 [.slice a n c, .slice b m d, .int .i64 next]
 obtain ⟨wz, hwz, Vz, bz, zz⟩ := q0q w0 31 [.slice none 0 0, .slice none 0 0, .int .i64 0]
 have HV0 : Hid (Row wz w.heap.size 31 [.slice a n c, .slice b m d, .int .i64 next]) := V0.below bz
 have HVz : Hid _ := Vz
 have BZ : Hid (Below w.heap.size w wz) := on b0 bz
 have HD : Hid (∀ w', Below wz.heap.size wz w' → rSectors.rd w' P [.slice a n c] D) := fun w' hb => Rep.below (Rep.below hD BZ.out) hb
 have HL : Hid (∀ w', Below wz.heap.size wz w' → rSnps.rd w' P [.slice b m d] l) := fun w' hb => Rep.below (Rep.below hL BZ.out) hb
 have HZZ : Hid (w.heap.size < w0.heap.size ∧ w0.heap.size < wz.heap.size) := ⟨by omega, by omega⟩
 have HSee : Hid (∀ w', Below wz.heap.size wz w' → w'.cell? ⟨w.heap.size, 0, none⟩ = some (.slice a n c) ∧ w'.cell? ⟨w.heap.size, 2, none⟩ = some (.int .i64 next)) := fun w' hb => ⟨(HV0.out.below hb).cell (j := 0) rfl, (HV0.out.below hb).cell (j := 2) rfl⟩
 have S0 := HSee.out _ (Below.refl _ wz).drew
 clear hS hD hL V0 b0 z0 Vz bz zz
 go_enter Try.func29, Try.ntmps29
 go_wp2_with fail
 refine wp_region_held_drew (S := (fun w' : World => w'.cell? ⟨w.heap.size, 0, none⟩ = some (.slice a n c) ∧ w'.cell? ⟨w.heap.size, 2, none⟩ = some (.int .i64 next))) (by kernel_rfl) (S0) (fun hH => ?_)
 refine tkM 0 _ rfl rfl ?_; simp only [sz, ss]
 refine tkM 1 _ rfl rfl ?_; simp only [sz, ss]
 refine tkM 3 _ rfl rfl ?_; simp only [sz, ss]
 refine tkM 4 _ rfl rfl ?_; simp only [sz, ss]
 refine rdL [2, 6] ?_
 refine rcL (fun K hK => ?_) ?_
 · go_simp
   go_at_call 46
   refine Calls.mono (q2j _ P a n c D (rSectors.keep (HD.out _ (Below.refl _ wz)) (fun _ _ _ => rfl))) ?_
   rintro e w1 ⟨g, vs, rfl, hgs, hgl, hda, bd1⟩
   have HG1 : Hid (wz.heap.size ≤ g ∧ g < w1.heap.size) := ⟨hgs, hgl g (Nat.lt_succ_self g)⟩
   have B1 : Hid (Below wz.heap.size wz w1) := (Below.refl wz.heap.size wz).drew.trans bd1
   have HDA : Hid _ := hda
   have S1 := HSee.out _ B1.out
   clear hgs hda bd1 hgl
   go_simp
   refine hK.out _ _ ?_ (fun hH => ?_)
   · try dsimp only
     first | exact S3 | exact S2 | exact S1 | exact S0
   clear hK K
   refine tkM 5 _ rfl rfl ?_; simp only [sz, ss]
   refine r1L 6 rfl fun K hK => ?_
   · go_simp
     have BA : Hid (Below w1.heap.size w1 (w1.alloc (.cells #[.slice none 0 0, .slice none 0 0, .int .i64 0] 31))) := (Below.refl _ _).alloc (Nat.le_refl _) _
     have VA : Hid (Row (w1.alloc (.cells #[.slice none 0 0, .slice none 0 0, .int .i64 0] 31)) w1.heap.size 31 [.slice none 0 0, .slice none 0 0, .int .i64 0]) := q9j w1 31 [.slice none 0 0, .slice none 0 0, .int .i64 0]
     have S2 := HSee.out _ (on B1.out BA.out)
     obtain ⟨wv, hwv⟩ : ∃ wv, w1.alloc (.cells #[.slice none 0 0, .slice none 0 0, .int .i64 0] 31) = wv := ⟨_, rfl⟩
     obtain ⟨bx, hbx⟩ : ∃ bx, bx = w1.heap.size := ⟨_, rfl⟩
     have BV : Hid (Below wz.heap.size wz wv) := by rw [← hwv]; exact on B1.out BA.out
     have HBX : Hid (w.heap.size ≤ bx ∧ wz.heap.size ≤ bx ∧ g ≠ bx ∧ bx < wv.heap.size ∧ g < wv.heap.size) := by
      have h1 := HG1.out; have h2 := HZZ.out; have h3 := B1.out.size; have h4 := VA.out.lt; rw [hwv] at h4; have h5 := BA.out.size; rw [hwv] at h5; rw [hbx]; unfold Hid; omega
     have HDV : Hid (∀ w', Kept (fun b => b < wv.heap.size ∧ b ≠ bx) wv w' → DiskAt w' (g + 1) g vs D) := by
      have h5 := BA.out.size
      have k : ∀ i, i < w1.heap.size → wv.heap[i]? = w1.heap[i]? := fun i hi => by rw [← hwv]; exact BA.out.block i hi
      rw [hwv] at h5
      intro w' K
      exact HDA.out.keepK (fun i hi => (K.block i ⟨Nat.lt_of_lt_of_le hi h5, by rw [hbx]; omega⟩).trans (k i hi)) HG1.out.2
     have V3 := VA.out
     rw [hwv, ← hbx] at V3
     have HBE : Hid (w1.heap.size = bx) := hbx.symm
     clear hbx
     refine hK.out _ _ ?_ (fun hH => ?_)
     · try dsimp only
       first | exact S3 | exact S2 | exact S1 | exact S0
     clear hK K
     refine r1L 7 rfl fun K hK => ?_
     · have p0 := V3.cell (j := 0) rfl
       have p1 := V3.cell (j := 1) rfl
       have p2 := V3.cell (j := 2) rfl
       have f0 := V3.frozen 0
       have f1 := V3.frozen 1
       have f2 := V3.frozen 2
       obtain ⟨wX, hwX, V9, K9⟩ := V3.whole3 (.slice (some ⟨g, 0, none⟩) n n) (.slice none 0 0) (.int .i64 next)
       have BX : Hid (Below wz.heap.size wz wX) := Kept.belowOf BV.out K9 HBX.out.2.1
       have S3 := HSee.out _ BX.out
       first | rw [hwv, HBE.out] | rw [HBE.out] | skip
       go_simp
       refine hK.out _ _ ?_ (fun hH => ?_)
       · try dsimp only
         first | exact S3 | exact S2 | exact S1 | exact S0
       clear hK K
       refine wpAnyH_done (by kernel_rfl) ?_ _
       have HGz : Hid (wz.heap.size ≤ g) := HG1.out.1
       have HV9 : Hid _ := V9
       have HBX9 : Hid (w.heap.size ≤ bx ∧ wz.heap.size ≤ bx ∧ g ≠ bx ∧ bx < wX.heap.size ∧ g < wX.heap.size ∧ wz.heap.size ≤ g) := by have h1 := HBX.out; have h2 := K9.size; have h3 := HGz.out; unfold Hid at *; omega
       have HDX : Hid (∀ w', Kept (fun b => b < wX.heap.size ∧ b ≠ bx) wX w' → DiskAt w' (g + 1) g vs D) := fun w' K => HDV.out w' ((K9.mono (fun b hb => hb.2)).trans (K.mono (fun b hb => ⟨Nat.lt_of_lt_of_le hb.1 K9.size, hb.2⟩)))
       have HBXl : Hid (bx < wX.heap.size) := HBX9.out.2.2.2.1
       have c1 := (HV0.out.below BX.out).cell (j := 1) rfl
       clear hH V9 K9 S3 p0 p1 p2 f0 f1 f2 V3
       go_wp2
       clear c1
       go_loopw [15] (fun i wr => ∃ (k : Nat) (v : Value), k ≤ m ∧ i = .int .i64 k ∧ Hid (Row wr bx 31 [.slice (some ⟨g, 0, none⟩) n n, v, .int .i64 next]) ∧ Hid (Owns rSnp 66 wr wX.heap.size v (l.take k)) ∧ Hid (Kept (fun b => b < wX.heap.size ∧ b ≠ bx) wX wr)) (fun i _ => m - (intOf i).toNat)
       case atStart => exact ⟨0, _, Nat.zero_le _, rfl, HV9.out, Owns.nil _ _ _ _, Kept.refl _ _⟩
       case round =>
        obtain ⟨k, v, hk, rfl, HVr, HOr, HKr⟩ := hrel
        have HZr : Hid (wX.heap.size ≤ wr.heap.size) := HKr.out.size
        have BR : Hid (Below wz.heap.size wz wr) := BX.out.trans (Kept.toBelow (HKr.out.mono (fun b hb => ⟨Nat.lt_of_lt_of_le hb BX.out.size, fun e => by have := HBX9.out.2.1; omega⟩)))
        by_cases hlt : k < m
        · have hkl : k < l.length := by rw [HM.out]; exact hlt
          obtain ⟨gl, off, rfl, -, hgl, hat⟩ := q1J (HL.out _ BR.out) (by omega)
          obtain ⟨x, xm, xd, hX, hXl, e0, e1, e2, hid, hs⟩ := hat k hkl
          have HTk : Hid (l.take (k + 1) = l.take k ++ [(l[k].1, l[k].2.1, l[k].2.2)]) := List.take_succ_eq_append_getElem hkl
          have hkz : (k : Int) < (m : Int) := by omega
          obtain ⟨id, hidE⟩ : ∃ id, id = l[k].1 := ⟨_, rfl⟩
          obtain ⟨nm, hnmE⟩ : ∃ nm, nm = l[k].2.1 := ⟨_, rfl⟩
          obtain ⟨dk, hdkE⟩ : ∃ dk, dk = l[k].2.2 := ⟨_, rfl⟩
          rw [← hidE, ← hnmE, ← hdkE] at HTk
          rw [← hidE] at e0 hid
          rw [← hnmE] at e1 hs
          rw [← hdkE] at hX hXl
          obtain ⟨w4, hw4, V4, b4, z4⟩ := q0q wr 66 [.int .i64 id, .string nm, .slice x xm xd]
          have HV4 : Hid _ := V4
          have HXm : Hid (dk.length = xm ∧ xm * 24 ≤ 140737488351232) := ⟨hXl, (q0Q hX).2.2.2⟩
          have HX4 : Hid (rSectors.rd w4.drew P [.slice x xm xd] dk) := rSectors.keep (Rep.below hX b4) (fun _ _ _ => rfl)
          have HNs : Hid (nm.size ≤ maxLen) := hs
          have HI : Hid (-9223372036854775808 ≤ id ∧ id ≤ 9223372036854775807) := hid
          have HO4 : Hid (Owns rSnp 66 w4 wX.heap.size v (l.take k)) := HOr.out.below b4
          have HZ4 : Hid (wX.heap.size ≤ w4.heap.size ∧ wr.heap.size < w4.heap.size) := ⟨Nat.le_trans HZr.out b4.size, V4.lt⟩
          have HK4 : Hid (Kept (fun b => b < wX.heap.size ∧ b ≠ bx) wX w4) := HKr.out.on (fun b hb => Nat.lt_of_lt_of_le hb.1 HZr.out) b4
          have HRow4 : Hid (∀ w', Below w4.heap.size w4 w' → Row w' bx 31 [.slice (some ⟨g, 0, none⟩) n n, v, .int .i64 next]) := fun w' hb => (HVr.out.below b4).below hb
          have HSee4 : Hid (∀ w', Below w4.heap.size w4 w' → w'.cell? ⟨wr.heap.size, 0, none⟩ = some (.int .i64 id) ∧ w'.cell? ⟨wr.heap.size, 1, none⟩ = some (.string nm) ∧ w'.cell? ⟨wr.heap.size, 2, none⟩ = some (.slice x xm xd)) := fun w' hb => ⟨(HV4.out.below hb).cell (j := 0) rfl, (HV4.out.below hb).cell (j := 1) rfl, (HV4.out.below hb).cell (j := 2) rfl⟩
          have HBX4 : Hid (bx < w4.heap.size ∧ some wr.heap.size ≠ v.ownBlock ∧ some bx ≠ v.ownBlock) := ⟨Nat.lt_of_lt_of_le HBXl.out HZ4.out.1, (fun e => by have := (HOr.out.row _ e.symm).2; omega), (fun e => by have := (HOr.out.row _ e.symm).1; have := HBXl.out; omega)⟩
          have HBN : Hid (¬ bx = wr.heap.size) := fun e => by have h1 := HBXl.out; have h2 := HZr.out; unfold Hid at h1 h2; omega
          have S0 := HSee4.out _ (Below.refl _ w4).drew
          clear hidE hnmE hdkE hat hX hXl hs hid V4 b4 z4
          go_wp2_with fail
          refine wp_region_held_drew (S := (fun w' : World => w'.cell? ⟨wr.heap.size, 0, none⟩ = some (.int .i64 id) ∧ w'.cell? ⟨wr.heap.size, 1, none⟩ = some (.string nm) ∧ w'.cell? ⟨wr.heap.size, 2, none⟩ = some (.slice x xm xd))) (by kernel_rfl) (S0) (fun hH => ?_)
          refine tkM 0 _ rfl rfl ?_; simp only [sz, ss]
          refine tkM 2 _ rfl rfl ?_; simp only [sz, ss]
          refine tkM 3 _ rfl rfl ?_; simp only [sz, ss]
          refine tkM 4 _ rfl rfl ?_; simp only [sz, ss]
          refine tkM 5 _ rfl rfl ?_; simp only [sz, ss]
          refine tkM 6 _ rfl rfl ?_; simp only [sz, ss]
          refine tkM 7 _ rfl rfl ?_; simp only [sz, ss]
          refine rdL [1, 8] ?_
          refine rcL (fun K hK => ?_) ?_
          · have rv := (HRow4.out _ (Below.refl _ w4).drew).cell (j := 1) rfl
            go_simp
            refine hK.out _ _ ?_ (fun hH => ?_)
            · try dsimp only
              first | exact S4 | exact S3 | exact S2 | exact S1 | exact S0
            clear hK K
            refine r1L 8 rfl fun K hK => ?_
            · go_simp
              go_at_call 46
              refine Calls.mono (q2j _ P x xm xd dk HX4.out) ?_
              rintro e w5 ⟨g5, vs5, rfl, hgs, hgl, hda, bd5⟩
              have B5 : Hid (Below w4.heap.size w4 w5) := (Below.refl w4.heap.size w4).drew.trans bd5
              have HR5 : Hid (rSectors.rd w5 (fun b => w4.heap.size ≤ b) [.slice (some ⟨g5, 0, none⟩) xm xm] dk) := rSectors.weaken (hda.rd HXm.out.1 HXm.out.2 (hgl g5 (Nat.lt_succ_self g5))) (fun b hb _ => Nat.le_trans hgs hb)
              have S1 := HSee4.out _ B5.out
              clear hgs hda bd5 hgl
              go_simp
              refine hK.out _ _ ?_ (fun hH => ?_)
              · try dsimp only
                first | exact S4 | exact S3 | exact S2 | exact S1 | exact S0
              clear hK K
              refine tkM 9 _ rfl rfl ?_; simp only [sz, ss]
              refine r1L 10 rfl fun K hK => ?_
              · go_simp
                have BA : Hid (Below w5.heap.size w5 (w5.alloc (.cells #[.int .i64 id, .string nm, .slice (some ⟨g5, 0, none⟩) xm xm] 66))) := (Below.refl _ _).alloc (Nat.le_refl _) _
                have S2 := HSee4.out _ (on B5.out BA.out)
                refine hK.out _ _ ?_ (fun hH => ?_)
                · try dsimp only
                  first | exact S4 | exact S3 | exact S2 | exact S1 | exact S0
                clear hK K
                refine r1L 11 rfl fun K hK => ?_
                · refine q0J q5x rfl (.tmp 20) (.tmp 29) rfl wX.heap.size v (l.take k) (by simp [Go.Act.eval]) ((HO4.out.below B5.out).below BA.out) ⟨w5.heap.size, 0, none⟩ [.int .i64 id, .string nm, .slice (some ⟨g5, 0, none⟩) xm xm] (id, nm, dk) (by simp [Go.Act.eval]) (q6x w5 id nm _ _) ?_ ?_ ?_ ?_ ?_
                  · exact rSnp.weaken (q4j HI.out HNs.out (Rep.below HR5.out BA.out)) (fun b hb _ => ⟨Nat.le_trans HZ4.out.1 hb, fun e => by have h1 := (HO4.out.row b e).2; have hb : w4.heap.size ≤ b := hb; omega⟩)
                  · rw [List.length_take]; show _ * 48 ≤ _; omega
                  · rw [List.length_take]; unfold maxLen; omega
                  · exact Nat.le_trans HZ4.out.1 (Nat.le_trans B5.out.size BA.out.size)
                  intro b6 d6 w6 ho6 g6
                  have B56 : Hid _ := on B5.out BA.out
                  have HO6 : Hid (Owns rSnp 66 w6 wX.heap.size (.slice b6 (min k l.length + 1) d6) (l.take (k + 1))) := by unfold Hid; rw [HTk.out, ← List.length_take]; exact ho6
                  have K6 : Hid (Kept (fun b => b < wX.heap.size ∧ b ≠ bx) wX w6) := (HK4.out.on (fun b hb => Nat.lt_of_lt_of_le hb.1 HZ4.out.1) B56.out).grown g6 (fun b hb => Nat.lt_of_lt_of_le hb.1 (Nat.le_trans HZ4.out.1 B56.out.size)) (fun j hj hs => by have := (HO4.out.row j hj).1; have := hs.1; omega)
                  have V6 : Hid (Row w6 bx 31 [.slice (some ⟨g, 0, none⟩) n n, v, .int .i64 next]) := (HRow4.out _ B56.out).keep (g6.block bx (Nat.lt_of_lt_of_le HBX4.out.1 B56.out.size) HBX4.out.2.2)
                  have R6 : Hid (Row w6 wr.heap.size 66 [.int .i64 id, .string nm, .slice x xm xd]) := (HV4.out.below B56.out).keep (g6.block _ (Nat.lt_of_lt_of_le HV4.out.lt B56.out.size) HBX4.out.2.1)
                  have S3 := And.intro (R6.out.cell (j := 0) rfl) (And.intro (R6.out.cell (j := 1) rfl) (R6.out.cell (j := 2) rfl))
                  clear ho6 g6
                  try go_simp
                  refine hK.out _ _ ?_ (fun hH => ?_)
                  · try dsimp only
                    first | exact S4 | exact S3 | exact S2 | exact S1 | exact S0
                  clear hK K
                  refine tkM 12 _ rfl rfl ?_; simp only [sz, ss]
                  refine r1L 13 rfl fun K hK => ?_
                  · have p1 := V6.out.cell (j := 1) rfl
                    have f1 := V6.out.frozen 1
                    have R7 := R6.out.keep (Below.heap_setCell w6 ⟨bx, 1, none⟩ (.slice b6 (min k l.length + 1) d6) wr.heap.size (fun e => HBN.out e.symm))
                    have S4 := And.intro (R7.cell (j := 0) rfl) (And.intro (R7.cell (j := 1) rfl) (R7.cell (j := 2) rfl))
                    have HV7 : Hid (Row (w6.setCell ⟨bx, 1, none⟩ (.slice b6 (min k l.length + 1) d6)) bx 31 [.slice (some ⟨g, 0, none⟩) n n, .slice b6 (min k l.length + 1) d6, .int .i64 next]) := V6.out.set 1 _
                    have HO7 : Hid (Owns rSnp 66 (w6.setCell ⟨bx, 1, none⟩ (.slice b6 (min k l.length + 1) d6)) wX.heap.size (.slice b6 (min k l.length + 1) d6) (l.take (k + 1))) := HO6.out.setCell (p := ⟨bx, 1, none⟩) HBXl.out _
                    have K7 : Hid (Kept (fun b => b < wX.heap.size ∧ b ≠ bx) wX (w6.setCell ⟨bx, 1, none⟩ (.slice b6 (min k l.length + 1) d6))) := K6.out.setCell (p := ⟨bx, 1, none⟩) (fun h => h.2 rfl) _
                    clear R7
                    go_simp
                    refine hK.out _ _ ?_ (fun hH => ?_)
                    · try dsimp only
                      first | exact S4 | exact S3 | exact S2 | exact S1 | exact S0
                    clear hK K
                    refine wpAnyH_done (by kernel_rfl) ?_ _
                    clear hH p1 f1 S4 S3
                    go_wp2
                    go_roundw
                    case rel => exact ⟨k + 1, _, by omega, by go_num, HV7, HO7, K7⟩
                    case measure => simp [intOf]; omega
          refine rcL (fun K hK => ?_) ?_
          · go_simp
            go_at_call 46
            refine Calls.mono (q2j _ P x xm xd dk HX4.out) ?_
            rintro e w5 ⟨g5, vs5, rfl, hgs, hgl, hda, bd5⟩
            have B5 : Hid (Below w4.heap.size w4 w5) := (Below.refl w4.heap.size w4).drew.trans bd5
            have HR5 : Hid (rSectors.rd w5 (fun b => w4.heap.size ≤ b) [.slice (some ⟨g5, 0, none⟩) xm xm] dk) := rSectors.weaken (hda.rd HXm.out.1 HXm.out.2 (hgl g5 (Nat.lt_succ_self g5))) (fun b hb _ => Nat.le_trans hgs hb)
            have S1 := HSee4.out _ B5.out
            clear hgs hda bd5 hgl
            go_simp
            refine hK.out _ _ ?_ (fun hH => ?_)
            · try dsimp only
              first | exact S4 | exact S3 | exact S2 | exact S1 | exact S0
            clear hK K
            refine tkM 9 _ rfl rfl ?_; simp only [sz, ss]
            refine rdL [1, 10] ?_
            refine rcL (fun K hK => ?_) ?_
            · have rv := (HRow4.out _ B5.out).cell (j := 1) rfl
              go_simp
              refine hK.out _ _ ?_ (fun hH => ?_)
              · try dsimp only
                first | exact S4 | exact S3 | exact S2 | exact S1 | exact S0
              clear hK K
              refine r1L 10 rfl fun K hK => ?_
              · go_simp
                have BA : Hid (Below w5.heap.size w5 (w5.alloc (.cells #[.int .i64 id, .string nm, .slice (some ⟨g5, 0, none⟩) xm xm] 66))) := (Below.refl _ _).alloc (Nat.le_refl _) _
                have S2 := HSee4.out _ (on B5.out BA.out)
                refine hK.out _ _ ?_ (fun hH => ?_)
                · try dsimp only
                  first | exact S4 | exact S3 | exact S2 | exact S1 | exact S0
                clear hK K
                refine r1L 11 rfl fun K hK => ?_
                · refine q0J q5x rfl (.tmp 20) (.tmp 29) rfl wX.heap.size v (l.take k) (by simp [Go.Act.eval]) ((HO4.out.below B5.out).below BA.out) ⟨w5.heap.size, 0, none⟩ [.int .i64 id, .string nm, .slice (some ⟨g5, 0, none⟩) xm xm] (id, nm, dk) (by simp [Go.Act.eval]) (q6x w5 id nm _ _) ?_ ?_ ?_ ?_ ?_
                  · exact rSnp.weaken (q4j HI.out HNs.out (Rep.below HR5.out BA.out)) (fun b hb _ => ⟨Nat.le_trans HZ4.out.1 hb, fun e => by have h1 := (HO4.out.row b e).2; have hb : w4.heap.size ≤ b := hb; omega⟩)
                  · rw [List.length_take]; show _ * 48 ≤ _; omega
                  · rw [List.length_take]; unfold maxLen; omega
                  · exact Nat.le_trans HZ4.out.1 (Nat.le_trans B5.out.size BA.out.size)
                  intro b6 d6 w6 ho6 g6
                  have B56 : Hid _ := on B5.out BA.out
                  have HO6 : Hid (Owns rSnp 66 w6 wX.heap.size (.slice b6 (min k l.length + 1) d6) (l.take (k + 1))) := by unfold Hid; rw [HTk.out, ← List.length_take]; exact ho6
                  have K6 : Hid (Kept (fun b => b < wX.heap.size ∧ b ≠ bx) wX w6) := (HK4.out.on (fun b hb => Nat.lt_of_lt_of_le hb.1 HZ4.out.1) B56.out).grown g6 (fun b hb => Nat.lt_of_lt_of_le hb.1 (Nat.le_trans HZ4.out.1 B56.out.size)) (fun j hj hs => by have := (HO4.out.row j hj).1; have := hs.1; omega)
                  have V6 : Hid (Row w6 bx 31 [.slice (some ⟨g, 0, none⟩) n n, v, .int .i64 next]) := (HRow4.out _ B56.out).keep (g6.block bx (Nat.lt_of_lt_of_le HBX4.out.1 B56.out.size) HBX4.out.2.2)
                  have R6 : Hid (Row w6 wr.heap.size 66 [.int .i64 id, .string nm, .slice x xm xd]) := (HV4.out.below B56.out).keep (g6.block _ (Nat.lt_of_lt_of_le HV4.out.lt B56.out.size) HBX4.out.2.1)
                  have S3 := And.intro (R6.out.cell (j := 0) rfl) (And.intro (R6.out.cell (j := 1) rfl) (R6.out.cell (j := 2) rfl))
                  clear ho6 g6
                  try go_simp
                  refine hK.out _ _ ?_ (fun hH => ?_)
                  · try dsimp only
                    first | exact S4 | exact S3 | exact S2 | exact S1 | exact S0
                  clear hK K
                  refine tkM 12 _ rfl rfl ?_; simp only [sz, ss]
                  refine r1L 13 rfl fun K hK => ?_
                  · have p1 := V6.out.cell (j := 1) rfl
                    have f1 := V6.out.frozen 1
                    have R7 := R6.out.keep (Below.heap_setCell w6 ⟨bx, 1, none⟩ (.slice b6 (min k l.length + 1) d6) wr.heap.size (fun e => HBN.out e.symm))
                    have S4 := And.intro (R7.cell (j := 0) rfl) (And.intro (R7.cell (j := 1) rfl) (R7.cell (j := 2) rfl))
                    have HV7 : Hid (Row (w6.setCell ⟨bx, 1, none⟩ (.slice b6 (min k l.length + 1) d6)) bx 31 [.slice (some ⟨g, 0, none⟩) n n, .slice b6 (min k l.length + 1) d6, .int .i64 next]) := V6.out.set 1 _
                    have HO7 : Hid (Owns rSnp 66 (w6.setCell ⟨bx, 1, none⟩ (.slice b6 (min k l.length + 1) d6)) wX.heap.size (.slice b6 (min k l.length + 1) d6) (l.take (k + 1))) := HO6.out.setCell (p := ⟨bx, 1, none⟩) HBXl.out _
                    have K7 : Hid (Kept (fun b => b < wX.heap.size ∧ b ≠ bx) wX (w6.setCell ⟨bx, 1, none⟩ (.slice b6 (min k l.length + 1) d6))) := K6.out.setCell (p := ⟨bx, 1, none⟩) (fun h => h.2 rfl) _
                    clear R7
                    go_simp
                    refine hK.out _ _ ?_ (fun hH => ?_)
                    · try dsimp only
                      first | exact S4 | exact S3 | exact S2 | exact S1 | exact S0
                    clear hK K
                    refine wpAnyH_done (by kernel_rfl) ?_ _
                    clear hH p1 f1 S4 S3
                    go_wp2
                    go_roundw
                    case rel => exact ⟨k + 1, _, by omega, by go_num, HV7, HO7, K7⟩
                    case measure => simp [intOf]; omega
            refine rcL (fun K hK => ?_) ?_
            · go_simp
              have BA : Hid (Below w5.heap.size w5 (w5.alloc (.cells #[.int .i64 id, .string nm, .slice (some ⟨g5, 0, none⟩) xm xm] 66))) := (Below.refl _ _).alloc (Nat.le_refl _) _
              have S2 := HSee4.out _ (on B5.out BA.out)
              refine hK.out _ _ ?_ (fun hH => ?_)
              · try dsimp only
                first | exact S4 | exact S3 | exact S2 | exact S1 | exact S0
              clear hK K
              refine r1L 1 rfl fun K hK => ?_
              · have rv := (HRow4.out _ (on B5.out BA.out)).cell (j := 1) rfl
                go_simp
                refine hK.out _ _ ?_ (fun hH => ?_)
                · try dsimp only
                  first | exact S4 | exact S3 | exact S2 | exact S1 | exact S0
                clear hK K
                refine r1L 11 rfl fun K hK => ?_
                · refine q0J q5x rfl (.tmp 20) (.tmp 29) rfl wX.heap.size v (l.take k) (by simp [Go.Act.eval]) ((HO4.out.below B5.out).below BA.out) ⟨w5.heap.size, 0, none⟩ [.int .i64 id, .string nm, .slice (some ⟨g5, 0, none⟩) xm xm] (id, nm, dk) (by simp [Go.Act.eval]) (q6x w5 id nm _ _) ?_ ?_ ?_ ?_ ?_
                  · exact rSnp.weaken (q4j HI.out HNs.out (Rep.below HR5.out BA.out)) (fun b hb _ => ⟨Nat.le_trans HZ4.out.1 hb, fun e => by have h1 := (HO4.out.row b e).2; have hb : w4.heap.size ≤ b := hb; omega⟩)
                  · rw [List.length_take]; show _ * 48 ≤ _; omega
                  · rw [List.length_take]; unfold maxLen; omega
                  · exact Nat.le_trans HZ4.out.1 (Nat.le_trans B5.out.size BA.out.size)
                  intro b6 d6 w6 ho6 g6
                  have B56 : Hid _ := on B5.out BA.out
                  have HO6 : Hid (Owns rSnp 66 w6 wX.heap.size (.slice b6 (min k l.length + 1) d6) (l.take (k + 1))) := by unfold Hid; rw [HTk.out, ← List.length_take]; exact ho6
                  have K6 : Hid (Kept (fun b => b < wX.heap.size ∧ b ≠ bx) wX w6) := (HK4.out.on (fun b hb => Nat.lt_of_lt_of_le hb.1 HZ4.out.1) B56.out).grown g6 (fun b hb => Nat.lt_of_lt_of_le hb.1 (Nat.le_trans HZ4.out.1 B56.out.size)) (fun j hj hs => by have := (HO4.out.row j hj).1; have := hs.1; omega)
                  have V6 : Hid (Row w6 bx 31 [.slice (some ⟨g, 0, none⟩) n n, v, .int .i64 next]) := (HRow4.out _ B56.out).keep (g6.block bx (Nat.lt_of_lt_of_le HBX4.out.1 B56.out.size) HBX4.out.2.2)
                  have R6 : Hid (Row w6 wr.heap.size 66 [.int .i64 id, .string nm, .slice x xm xd]) := (HV4.out.below B56.out).keep (g6.block _ (Nat.lt_of_lt_of_le HV4.out.lt B56.out.size) HBX4.out.2.1)
                  have S3 := And.intro (R6.out.cell (j := 0) rfl) (And.intro (R6.out.cell (j := 1) rfl) (R6.out.cell (j := 2) rfl))
                  clear ho6 g6
                  try go_simp
                  refine hK.out _ _ ?_ (fun hH => ?_)
                  · try dsimp only
                    first | exact S4 | exact S3 | exact S2 | exact S1 | exact S0
                  clear hK K
                  refine tkM 12 _ rfl rfl ?_; simp only [sz, ss]
                  refine r1L 13 rfl fun K hK => ?_
                  · have p1 := V6.out.cell (j := 1) rfl
                    have f1 := V6.out.frozen 1
                    have R7 := R6.out.keep (Below.heap_setCell w6 ⟨bx, 1, none⟩ (.slice b6 (min k l.length + 1) d6) wr.heap.size (fun e => HBN.out e.symm))
                    have S4 := And.intro (R7.cell (j := 0) rfl) (And.intro (R7.cell (j := 1) rfl) (R7.cell (j := 2) rfl))
                    have HV7 : Hid (Row (w6.setCell ⟨bx, 1, none⟩ (.slice b6 (min k l.length + 1) d6)) bx 31 [.slice (some ⟨g, 0, none⟩) n n, .slice b6 (min k l.length + 1) d6, .int .i64 next]) := V6.out.set 1 _
                    have HO7 : Hid (Owns rSnp 66 (w6.setCell ⟨bx, 1, none⟩ (.slice b6 (min k l.length + 1) d6)) wX.heap.size (.slice b6 (min k l.length + 1) d6) (l.take (k + 1))) := HO6.out.setCell (p := ⟨bx, 1, none⟩) HBXl.out _
                    have K7 : Hid (Kept (fun b => b < wX.heap.size ∧ b ≠ bx) wX (w6.setCell ⟨bx, 1, none⟩ (.slice b6 (min k l.length + 1) d6))) := K6.out.setCell (p := ⟨bx, 1, none⟩) (fun h => h.2 rfl) _
                    clear R7
                    go_simp
                    refine hK.out _ _ ?_ (fun hH => ?_)
                    · try dsimp only
                      first | exact S4 | exact S3 | exact S2 | exact S1 | exact S0
                    clear hK K
                    refine wpAnyH_done (by kernel_rfl) ?_ _
                    clear hH p1 f1 S4 S3
                    go_wp2
                    go_roundw
                    case rel => exact ⟨k + 1, _, by omega, by go_num, HV7, HO7, K7⟩
                    case measure => simp [intOf]; omega
            exact rnL
          exact rnL
        · obtain rfl : m = k := by omega
          have HF : Hid (l.take m = l) := List.take_of_length_le (by rw [HM.out]; exact Nat.le_refl _)
          obtain ⟨va, vc, hv, -⟩ := Owns.rd (hs := by decide) HOr.out (by rw [List.length_take]; show _ * 48 ≤ _; omega)
          obtain ⟨vn, hvn⟩ : ∃ vn, (l.take m).length = vn := ⟨_, rfl⟩
          rw [hvn] at hv
          subst hv
          clear hvn
          have p0 := HVr.out.cell (j := 0) rfl
          have p1 := HVr.out.cell (j := 1) rfl
          have p2 := HVr.out.cell (j := 2) rfl
          have HVq : Hid _ := HVz.out.below BR.out
          have q0 := HVq.out.cell (j := 0) rfl
          have q1 := HVq.out.cell (j := 1) rfl
          have q2 := HVq.out.cell (j := 2) rfl
          have f0 := HVq.out.frozen 0
          have f1 := HVq.out.frozen 1
          have f2 := HVq.out.frozen 2
          have V3 := ((HVq.out.set 0 (.slice (some ⟨g, 0, none⟩) n n)).set 1 (.slice va vn vc)).set 2 (.int .i64 next)
          have HV3 : Hid _ := V3
          clear V3
          go_wp2
          refine bodyPost_ret (q1q rfl rfl HV3.out Try.underlying31 rfl (by kernel_rfl)) rfl ⟨g, vs, _, rfl, ?_, ?_, ?_, ?_, ?_⟩
          · have h1 := HZZ.out; have h2 := HBX9.out.2.2.2.2.2; unfold Hid at h1; omega
          · exact Nat.lt_of_lt_of_le (Nat.lt_of_lt_of_le HBX9.out.2.2.2.2.1 HZr.out) (kept3 wr w0.heap.size _ _ _).size
          · exact (HDX.out wr HKr.out).keepB (fun b hb hl => (kept3 wr w0.heap.size _ _ _).block b (by have h1 := HZZ.out; have h2 := HBX9.out.2.2.2.2.2; unfold Hid at h1; omega)) (Nat.lt_of_lt_of_le HBX9.out.2.2.2.2.1 HZr.out)
          · have ho := HOr.out.low (base' := g + 1) HBX9.out.2.2.2.2.1
            rw [HF.out] at ho
            exact ho.keep (fun b hb hl => (kept3 wr w0.heap.size _ _ _).block b (by have h1 := HZZ.out; have h2 := HBX9.out.2.2.2.2.2; unfold Hid at h1; omega))
          · exact (((on BZ.out BR.out).setCell (p := ⟨w0.heap.size, 0, none⟩) (Nat.le_of_lt HZZ.out.1) _).setCell (p := ⟨w0.heap.size, 1, none⟩) (Nat.le_of_lt HZZ.out.1) _).setCell (p := ⟨w0.heap.size, 2, none⟩) (Nat.le_of_lt HZZ.out.1) _
 refine rcL (fun K hK => ?_) ?_
 · go_simp
   have BA : Hid (Below wz.heap.size wz (wz.drew.alloc (.cells #[.slice none 0 0, .slice none 0 0, .int .i64 0] 31))) := (Below.refl wz.heap.size wz).drew.alloc (Nat.le_refl _) _
   have VA : Hid (Row (wz.drew.alloc (.cells #[.slice none 0 0, .slice none 0 0, .int .i64 0] 31)) wz.drew.heap.size 31 [.slice none 0 0, .slice none 0 0, .int .i64 0]) := q9j wz.drew 31 [.slice none 0 0, .slice none 0 0, .int .i64 0]
   have S1 := HSee.out _ BA.out
   refine hK.out _ _ ?_ (fun hH => ?_)
   · try dsimp only
     first | exact S3 | exact S2 | exact S1 | exact S0
   clear hK K
   refine r1L 2 rfl fun K hK => ?_
   · go_simp
     go_at_call 46
     refine Calls.mono (q2j _ P a n c D (HD.out _ BA.out)) ?_
     rintro e wv ⟨g, vs, rfl, hgs, hgl, hda, bd1⟩
     obtain ⟨bx, hbx⟩ : ∃ bx, bx = wz.heap.size := ⟨_, rfl⟩
     have hg1 : wz.heap.size + 1 ≤ g := by simpa using hgs
     have HG2 : Hid (wz.heap.size + 1 ≤ g) := hg1
     have hs1 : wz.heap.size + 1 ≤ wv.heap.size := by simpa using bd1.size
     have BV : Hid _ := on BA.out bd1
     have HBX : Hid (w.heap.size ≤ bx ∧ wz.heap.size ≤ bx ∧ g ≠ bx ∧ bx < wv.heap.size ∧ g < wv.heap.size) := by
      have h2 := HZZ.out; have h4 := hgl g (Nat.lt_succ_self g); rw [hbx]; unfold Hid at *; omega
     have HDV : Hid (∀ w', Kept (fun b => b < wv.heap.size ∧ b ≠ bx) wv w' → DiskAt w' (g + 1) g vs D) := by
      intro w' K
      exact hda.keepB (fun i hl hi => K.block i ⟨hi, by rw [hbx]; omega⟩) (hgl g (Nat.lt_succ_self g))
     have V3 : Row wv bx 31 [.slice none 0 0, .slice none 0 0, .int .i64 0] := by rw [hbx]; exact VA.out.below bd1
     have HBE : Hid (wz.heap.size = bx) := hbx.symm
     have S2 := HSee.out _ BV.out
     clear hgs hda bd1 hgl hbx hg1 hs1
     go_simp
     refine hK.out _ _ ?_ (fun hH => ?_)
     · try dsimp only
       first | exact S3 | exact S2 | exact S1 | exact S0
     clear hK K
     refine tkM 5 _ rfl rfl ?_; simp only [sz, ss]
     refine r1L 7 rfl fun K hK => ?_
     · have p0 := V3.cell (j := 0) rfl
       have p1 := V3.cell (j := 1) rfl
       have p2 := V3.cell (j := 2) rfl
       have f0 := V3.frozen 0
       have f1 := V3.frozen 1
       have f2 := V3.frozen 2
       obtain ⟨wX, hwX, V9, K9⟩ := V3.whole3 (.slice (some ⟨g, 0, none⟩) n n) (.slice none 0 0) (.int .i64 next)
       have BX : Hid (Below wz.heap.size wz wX) := Kept.belowOf BV.out K9 HBX.out.2.1
       have S3 := HSee.out _ BX.out
       first | rw [HBE.out] | skip
       go_simp
       refine hK.out _ _ ?_ (fun hH => ?_)
       · try dsimp only
         first | exact S3 | exact S2 | exact S1 | exact S0
       clear hK K
       refine wpAnyH_done (by kernel_rfl) ?_ _
       have HGz : Hid (wz.heap.size ≤ g) := Nat.le_of_succ_le HG2.out
       have HV9 : Hid _ := V9
       have HBX9 : Hid (w.heap.size ≤ bx ∧ wz.heap.size ≤ bx ∧ g ≠ bx ∧ bx < wX.heap.size ∧ g < wX.heap.size ∧ wz.heap.size ≤ g) := by have h1 := HBX.out; have h2 := K9.size; have h3 := HGz.out; unfold Hid at *; omega
       have HDX : Hid (∀ w', Kept (fun b => b < wX.heap.size ∧ b ≠ bx) wX w' → DiskAt w' (g + 1) g vs D) := fun w' K => HDV.out w' ((K9.mono (fun b hb => hb.2)).trans (K.mono (fun b hb => ⟨Nat.lt_of_lt_of_le hb.1 K9.size, hb.2⟩)))
       have HBXl : Hid (bx < wX.heap.size) := HBX9.out.2.2.2.1
       have c1 := (HV0.out.below BX.out).cell (j := 1) rfl
       clear hH V9 K9 S3 p0 p1 p2 f0 f1 f2 V3
       go_wp2
       clear c1
       go_loopw [15] (fun i wr => ∃ (k : Nat) (v : Value), k ≤ m ∧ i = .int .i64 k ∧ Hid (Row wr bx 31 [.slice (some ⟨g, 0, none⟩) n n, v, .int .i64 next]) ∧ Hid (Owns rSnp 66 wr wX.heap.size v (l.take k)) ∧ Hid (Kept (fun b => b < wX.heap.size ∧ b ≠ bx) wX wr)) (fun i _ => m - (intOf i).toNat)
       case atStart => exact ⟨0, _, Nat.zero_le _, rfl, HV9.out, Owns.nil _ _ _ _, Kept.refl _ _⟩
       case round =>
        obtain ⟨k, v, hk, rfl, HVr, HOr, HKr⟩ := hrel
        have HZr : Hid (wX.heap.size ≤ wr.heap.size) := HKr.out.size
        have BR : Hid (Below wz.heap.size wz wr) := BX.out.trans (Kept.toBelow (HKr.out.mono (fun b hb => ⟨Nat.lt_of_lt_of_le hb BX.out.size, fun e => by have := HBX9.out.2.1; omega⟩)))
        by_cases hlt : k < m
        · have hkl : k < l.length := by rw [HM.out]; exact hlt
          obtain ⟨gl, off, rfl, -, hgl, hat⟩ := q1J (HL.out _ BR.out) (by omega)
          obtain ⟨x, xm, xd, hX, hXl, e0, e1, e2, hid, hs⟩ := hat k hkl
          have HTk : Hid (l.take (k + 1) = l.take k ++ [(l[k].1, l[k].2.1, l[k].2.2)]) := List.take_succ_eq_append_getElem hkl
          have hkz : (k : Int) < (m : Int) := by omega
          obtain ⟨id, hidE⟩ : ∃ id, id = l[k].1 := ⟨_, rfl⟩
          obtain ⟨nm, hnmE⟩ : ∃ nm, nm = l[k].2.1 := ⟨_, rfl⟩
          obtain ⟨dk, hdkE⟩ : ∃ dk, dk = l[k].2.2 := ⟨_, rfl⟩
          rw [← hidE, ← hnmE, ← hdkE] at HTk
          rw [← hidE] at e0 hid
          rw [← hnmE] at e1 hs
          rw [← hdkE] at hX hXl
          obtain ⟨w4, hw4, V4, b4, z4⟩ := q0q wr 66 [.int .i64 id, .string nm, .slice x xm xd]
          have HV4 : Hid _ := V4
          have HXm : Hid (dk.length = xm ∧ xm * 24 ≤ 140737488351232) := ⟨hXl, (q0Q hX).2.2.2⟩
          have HX4 : Hid (rSectors.rd w4.drew P [.slice x xm xd] dk) := rSectors.keep (Rep.below hX b4) (fun _ _ _ => rfl)
          have HNs : Hid (nm.size ≤ maxLen) := hs
          have HI : Hid (-9223372036854775808 ≤ id ∧ id ≤ 9223372036854775807) := hid
          have HO4 : Hid (Owns rSnp 66 w4 wX.heap.size v (l.take k)) := HOr.out.below b4
          have HZ4 : Hid (wX.heap.size ≤ w4.heap.size ∧ wr.heap.size < w4.heap.size) := ⟨Nat.le_trans HZr.out b4.size, V4.lt⟩
          have HK4 : Hid (Kept (fun b => b < wX.heap.size ∧ b ≠ bx) wX w4) := HKr.out.on (fun b hb => Nat.lt_of_lt_of_le hb.1 HZr.out) b4
          have HRow4 : Hid (∀ w', Below w4.heap.size w4 w' → Row w' bx 31 [.slice (some ⟨g, 0, none⟩) n n, v, .int .i64 next]) := fun w' hb => (HVr.out.below b4).below hb
          have HSee4 : Hid (∀ w', Below w4.heap.size w4 w' → w'.cell? ⟨wr.heap.size, 0, none⟩ = some (.int .i64 id) ∧ w'.cell? ⟨wr.heap.size, 1, none⟩ = some (.string nm) ∧ w'.cell? ⟨wr.heap.size, 2, none⟩ = some (.slice x xm xd)) := fun w' hb => ⟨(HV4.out.below hb).cell (j := 0) rfl, (HV4.out.below hb).cell (j := 1) rfl, (HV4.out.below hb).cell (j := 2) rfl⟩
          have HBX4 : Hid (bx < w4.heap.size ∧ some wr.heap.size ≠ v.ownBlock ∧ some bx ≠ v.ownBlock) := ⟨Nat.lt_of_lt_of_le HBXl.out HZ4.out.1, (fun e => by have := (HOr.out.row _ e.symm).2; omega), (fun e => by have := (HOr.out.row _ e.symm).1; have := HBXl.out; omega)⟩
          have HBN : Hid (¬ bx = wr.heap.size) := fun e => by have h1 := HBXl.out; have h2 := HZr.out; unfold Hid at h1 h2; omega
          have S0 := HSee4.out _ (Below.refl _ w4).drew
          clear hidE hnmE hdkE hat hX hXl hs hid V4 b4 z4
          go_wp2_with fail
          refine wp_region_held_drew (S := (fun w' : World => w'.cell? ⟨wr.heap.size, 0, none⟩ = some (.int .i64 id) ∧ w'.cell? ⟨wr.heap.size, 1, none⟩ = some (.string nm) ∧ w'.cell? ⟨wr.heap.size, 2, none⟩ = some (.slice x xm xd))) (by kernel_rfl) (S0) (fun hH => ?_)
          refine tkM 0 _ rfl rfl ?_; simp only [sz, ss]
          refine tkM 2 _ rfl rfl ?_; simp only [sz, ss]
          refine tkM 3 _ rfl rfl ?_; simp only [sz, ss]
          refine tkM 4 _ rfl rfl ?_; simp only [sz, ss]
          refine tkM 5 _ rfl rfl ?_; simp only [sz, ss]
          refine tkM 6 _ rfl rfl ?_; simp only [sz, ss]
          refine tkM 7 _ rfl rfl ?_; simp only [sz, ss]
          refine rdL [1, 8] ?_
          refine rcL (fun K hK => ?_) ?_
          · have rv := (HRow4.out _ (Below.refl _ w4).drew).cell (j := 1) rfl
            go_simp
            refine hK.out _ _ ?_ (fun hH => ?_)
            · try dsimp only
              first | exact S4 | exact S3 | exact S2 | exact S1 | exact S0
            clear hK K
            refine r1L 8 rfl fun K hK => ?_
            · go_simp
              go_at_call 46
              refine Calls.mono (q2j _ P x xm xd dk HX4.out) ?_
              rintro e w5 ⟨g5, vs5, rfl, hgs, hgl, hda, bd5⟩
              have B5 : Hid (Below w4.heap.size w4 w5) := (Below.refl w4.heap.size w4).drew.trans bd5
              have HR5 : Hid (rSectors.rd w5 (fun b => w4.heap.size ≤ b) [.slice (some ⟨g5, 0, none⟩) xm xm] dk) := rSectors.weaken (hda.rd HXm.out.1 HXm.out.2 (hgl g5 (Nat.lt_succ_self g5))) (fun b hb _ => Nat.le_trans hgs hb)
              have S1 := HSee4.out _ B5.out
              clear hgs hda bd5 hgl
              go_simp
              refine hK.out _ _ ?_ (fun hH => ?_)
              · try dsimp only
                first | exact S4 | exact S3 | exact S2 | exact S1 | exact S0
              clear hK K
              refine tkM 9 _ rfl rfl ?_; simp only [sz, ss]
              refine r1L 10 rfl fun K hK => ?_
              · go_simp
                have BA : Hid (Below w5.heap.size w5 (w5.alloc (.cells #[.int .i64 id, .string nm, .slice (some ⟨g5, 0, none⟩) xm xm] 66))) := (Below.refl _ _).alloc (Nat.le_refl _) _
                have S2 := HSee4.out _ (on B5.out BA.out)
                refine hK.out _ _ ?_ (fun hH => ?_)
                · try dsimp only
                  first | exact S4 | exact S3 | exact S2 | exact S1 | exact S0
                clear hK K
                refine r1L 11 rfl fun K hK => ?_
                · refine q0J q5x rfl (.tmp 20) (.tmp 29) rfl wX.heap.size v (l.take k) (by simp [Go.Act.eval]) ((HO4.out.below B5.out).below BA.out) ⟨w5.heap.size, 0, none⟩ [.int .i64 id, .string nm, .slice (some ⟨g5, 0, none⟩) xm xm] (id, nm, dk) (by simp [Go.Act.eval]) (q6x w5 id nm _ _) ?_ ?_ ?_ ?_ ?_
                  · exact rSnp.weaken (q4j HI.out HNs.out (Rep.below HR5.out BA.out)) (fun b hb _ => ⟨Nat.le_trans HZ4.out.1 hb, fun e => by have h1 := (HO4.out.row b e).2; have hb : w4.heap.size ≤ b := hb; omega⟩)
                  · rw [List.length_take]; show _ * 48 ≤ _; omega
                  · rw [List.length_take]; unfold maxLen; omega
                  · exact Nat.le_trans HZ4.out.1 (Nat.le_trans B5.out.size BA.out.size)
                  intro b6 d6 w6 ho6 g6
                  have B56 : Hid _ := on B5.out BA.out
                  have HO6 : Hid (Owns rSnp 66 w6 wX.heap.size (.slice b6 (min k l.length + 1) d6) (l.take (k + 1))) := by unfold Hid; rw [HTk.out, ← List.length_take]; exact ho6
                  have K6 : Hid (Kept (fun b => b < wX.heap.size ∧ b ≠ bx) wX w6) := (HK4.out.on (fun b hb => Nat.lt_of_lt_of_le hb.1 HZ4.out.1) B56.out).grown g6 (fun b hb => Nat.lt_of_lt_of_le hb.1 (Nat.le_trans HZ4.out.1 B56.out.size)) (fun j hj hs => by have := (HO4.out.row j hj).1; have := hs.1; omega)
                  have V6 : Hid (Row w6 bx 31 [.slice (some ⟨g, 0, none⟩) n n, v, .int .i64 next]) := (HRow4.out _ B56.out).keep (g6.block bx (Nat.lt_of_lt_of_le HBX4.out.1 B56.out.size) HBX4.out.2.2)
                  have R6 : Hid (Row w6 wr.heap.size 66 [.int .i64 id, .string nm, .slice x xm xd]) := (HV4.out.below B56.out).keep (g6.block _ (Nat.lt_of_lt_of_le HV4.out.lt B56.out.size) HBX4.out.2.1)
                  have S3 := And.intro (R6.out.cell (j := 0) rfl) (And.intro (R6.out.cell (j := 1) rfl) (R6.out.cell (j := 2) rfl))
                  clear ho6 g6
                  try go_simp
                  refine hK.out _ _ ?_ (fun hH => ?_)
                  · try dsimp only
                    first | exact S4 | exact S3 | exact S2 | exact S1 | exact S0
                  clear hK K
                  refine tkM 12 _ rfl rfl ?_; simp only [sz, ss]
                  refine r1L 13 rfl fun K hK => ?_
                  · have p1 := V6.out.cell (j := 1) rfl
                    have f1 := V6.out.frozen 1
                    have R7 := R6.out.keep (Below.heap_setCell w6 ⟨bx, 1, none⟩ (.slice b6 (min k l.length + 1) d6) wr.heap.size (fun e => HBN.out e.symm))
                    have S4 := And.intro (R7.cell (j := 0) rfl) (And.intro (R7.cell (j := 1) rfl) (R7.cell (j := 2) rfl))
                    have HV7 : Hid (Row (w6.setCell ⟨bx, 1, none⟩ (.slice b6 (min k l.length + 1) d6)) bx 31 [.slice (some ⟨g, 0, none⟩) n n, .slice b6 (min k l.length + 1) d6, .int .i64 next]) := V6.out.set 1 _
                    have HO7 : Hid (Owns rSnp 66 (w6.setCell ⟨bx, 1, none⟩ (.slice b6 (min k l.length + 1) d6)) wX.heap.size (.slice b6 (min k l.length + 1) d6) (l.take (k + 1))) := HO6.out.setCell (p := ⟨bx, 1, none⟩) HBXl.out _
                    have K7 : Hid (Kept (fun b => b < wX.heap.size ∧ b ≠ bx) wX (w6.setCell ⟨bx, 1, none⟩ (.slice b6 (min k l.length + 1) d6))) := K6.out.setCell (p := ⟨bx, 1, none⟩) (fun h => h.2 rfl) _
                    clear R7
                    go_simp
                    refine hK.out _ _ ?_ (fun hH => ?_)
                    · try dsimp only
                      first | exact S4 | exact S3 | exact S2 | exact S1 | exact S0
                    clear hK K
                    refine wpAnyH_done (by kernel_rfl) ?_ _
                    clear hH p1 f1 S4 S3
                    go_wp2
                    go_roundw
                    case rel => exact ⟨k + 1, _, by omega, by go_num, HV7, HO7, K7⟩
                    case measure => simp [intOf]; omega
          refine rcL (fun K hK => ?_) ?_
          · go_simp
            go_at_call 46
            refine Calls.mono (q2j _ P x xm xd dk HX4.out) ?_
            rintro e w5 ⟨g5, vs5, rfl, hgs, hgl, hda, bd5⟩
            have B5 : Hid (Below w4.heap.size w4 w5) := (Below.refl w4.heap.size w4).drew.trans bd5
            have HR5 : Hid (rSectors.rd w5 (fun b => w4.heap.size ≤ b) [.slice (some ⟨g5, 0, none⟩) xm xm] dk) := rSectors.weaken (hda.rd HXm.out.1 HXm.out.2 (hgl g5 (Nat.lt_succ_self g5))) (fun b hb _ => Nat.le_trans hgs hb)
            have S1 := HSee4.out _ B5.out
            clear hgs hda bd5 hgl
            go_simp
            refine hK.out _ _ ?_ (fun hH => ?_)
            · try dsimp only
              first | exact S4 | exact S3 | exact S2 | exact S1 | exact S0
            clear hK K
            refine tkM 9 _ rfl rfl ?_; simp only [sz, ss]
            refine rdL [1, 10] ?_
            refine rcL (fun K hK => ?_) ?_
            · have rv := (HRow4.out _ B5.out).cell (j := 1) rfl
              go_simp
              refine hK.out _ _ ?_ (fun hH => ?_)
              · try dsimp only
                first | exact S4 | exact S3 | exact S2 | exact S1 | exact S0
              clear hK K
              refine r1L 10 rfl fun K hK => ?_
              · go_simp
                have BA : Hid (Below w5.heap.size w5 (w5.alloc (.cells #[.int .i64 id, .string nm, .slice (some ⟨g5, 0, none⟩) xm xm] 66))) := (Below.refl _ _).alloc (Nat.le_refl _) _
                have S2 := HSee4.out _ (on B5.out BA.out)
                refine hK.out _ _ ?_ (fun hH => ?_)
                · try dsimp only
                  first | exact S4 | exact S3 | exact S2 | exact S1 | exact S0
                clear hK K
                refine r1L 11 rfl fun K hK => ?_
                · refine q0J q5x rfl (.tmp 20) (.tmp 29) rfl wX.heap.size v (l.take k) (by simp [Go.Act.eval]) ((HO4.out.below B5.out).below BA.out) ⟨w5.heap.size, 0, none⟩ [.int .i64 id, .string nm, .slice (some ⟨g5, 0, none⟩) xm xm] (id, nm, dk) (by simp [Go.Act.eval]) (q6x w5 id nm _ _) ?_ ?_ ?_ ?_ ?_
                  · exact rSnp.weaken (q4j HI.out HNs.out (Rep.below HR5.out BA.out)) (fun b hb _ => ⟨Nat.le_trans HZ4.out.1 hb, fun e => by have h1 := (HO4.out.row b e).2; have hb : w4.heap.size ≤ b := hb; omega⟩)
                  · rw [List.length_take]; show _ * 48 ≤ _; omega
                  · rw [List.length_take]; unfold maxLen; omega
                  · exact Nat.le_trans HZ4.out.1 (Nat.le_trans B5.out.size BA.out.size)
                  intro b6 d6 w6 ho6 g6
                  have B56 : Hid _ := on B5.out BA.out
                  have HO6 : Hid (Owns rSnp 66 w6 wX.heap.size (.slice b6 (min k l.length + 1) d6) (l.take (k + 1))) := by unfold Hid; rw [HTk.out, ← List.length_take]; exact ho6
                  have K6 : Hid (Kept (fun b => b < wX.heap.size ∧ b ≠ bx) wX w6) := (HK4.out.on (fun b hb => Nat.lt_of_lt_of_le hb.1 HZ4.out.1) B56.out).grown g6 (fun b hb => Nat.lt_of_lt_of_le hb.1 (Nat.le_trans HZ4.out.1 B56.out.size)) (fun j hj hs => by have := (HO4.out.row j hj).1; have := hs.1; omega)
                  have V6 : Hid (Row w6 bx 31 [.slice (some ⟨g, 0, none⟩) n n, v, .int .i64 next]) := (HRow4.out _ B56.out).keep (g6.block bx (Nat.lt_of_lt_of_le HBX4.out.1 B56.out.size) HBX4.out.2.2)
                  have R6 : Hid (Row w6 wr.heap.size 66 [.int .i64 id, .string nm, .slice x xm xd]) := (HV4.out.below B56.out).keep (g6.block _ (Nat.lt_of_lt_of_le HV4.out.lt B56.out.size) HBX4.out.2.1)
                  have S3 := And.intro (R6.out.cell (j := 0) rfl) (And.intro (R6.out.cell (j := 1) rfl) (R6.out.cell (j := 2) rfl))
                  clear ho6 g6
                  try go_simp
                  refine hK.out _ _ ?_ (fun hH => ?_)
                  · try dsimp only
                    first | exact S4 | exact S3 | exact S2 | exact S1 | exact S0
                  clear hK K
                  refine tkM 12 _ rfl rfl ?_; simp only [sz, ss]
                  refine r1L 13 rfl fun K hK => ?_
                  · have p1 := V6.out.cell (j := 1) rfl
                    have f1 := V6.out.frozen 1
                    have R7 := R6.out.keep (Below.heap_setCell w6 ⟨bx, 1, none⟩ (.slice b6 (min k l.length + 1) d6) wr.heap.size (fun e => HBN.out e.symm))
                    have S4 := And.intro (R7.cell (j := 0) rfl) (And.intro (R7.cell (j := 1) rfl) (R7.cell (j := 2) rfl))
                    have HV7 : Hid (Row (w6.setCell ⟨bx, 1, none⟩ (.slice b6 (min k l.length + 1) d6)) bx 31 [.slice (some ⟨g, 0, none⟩) n n, .slice b6 (min k l.length + 1) d6, .int .i64 next]) := V6.out.set 1 _
                    have HO7 : Hid (Owns rSnp 66 (w6.setCell ⟨bx, 1, none⟩ (.slice b6 (min k l.length + 1) d6)) wX.heap.size (.slice b6 (min k l.length + 1) d6) (l.take (k + 1))) := HO6.out.setCell (p := ⟨bx, 1, none⟩) HBXl.out _
                    have K7 : Hid (Kept (fun b => b < wX.heap.size ∧ b ≠ bx) wX (w6.setCell ⟨bx, 1, none⟩ (.slice b6 (min k l.length + 1) d6))) := K6.out.setCell (p := ⟨bx, 1, none⟩) (fun h => h.2 rfl) _
                    clear R7
                    go_simp
                    refine hK.out _ _ ?_ (fun hH => ?_)
                    · try dsimp only
                      first | exact S4 | exact S3 | exact S2 | exact S1 | exact S0
                    clear hK K
                    refine wpAnyH_done (by kernel_rfl) ?_ _
                    clear hH p1 f1 S4 S3
                    go_wp2
                    go_roundw
                    case rel => exact ⟨k + 1, _, by omega, by go_num, HV7, HO7, K7⟩
                    case measure => simp [intOf]; omega
            refine rcL (fun K hK => ?_) ?_
            · go_simp
              have BA : Hid (Below w5.heap.size w5 (w5.alloc (.cells #[.int .i64 id, .string nm, .slice (some ⟨g5, 0, none⟩) xm xm] 66))) := (Below.refl _ _).alloc (Nat.le_refl _) _
              have S2 := HSee4.out _ (on B5.out BA.out)
              refine hK.out _ _ ?_ (fun hH => ?_)
              · try dsimp only
                first | exact S4 | exact S3 | exact S2 | exact S1 | exact S0
              clear hK K
              refine r1L 1 rfl fun K hK => ?_
              · have rv := (HRow4.out _ (on B5.out BA.out)).cell (j := 1) rfl
                go_simp
                refine hK.out _ _ ?_ (fun hH => ?_)
                · try dsimp only
                  first | exact S4 | exact S3 | exact S2 | exact S1 | exact S0
                clear hK K
                refine r1L 11 rfl fun K hK => ?_
                · refine q0J q5x rfl (.tmp 20) (.tmp 29) rfl wX.heap.size v (l.take k) (by simp [Go.Act.eval]) ((HO4.out.below B5.out).below BA.out) ⟨w5.heap.size, 0, none⟩ [.int .i64 id, .string nm, .slice (some ⟨g5, 0, none⟩) xm xm] (id, nm, dk) (by simp [Go.Act.eval]) (q6x w5 id nm _ _) ?_ ?_ ?_ ?_ ?_
                  · exact rSnp.weaken (q4j HI.out HNs.out (Rep.below HR5.out BA.out)) (fun b hb _ => ⟨Nat.le_trans HZ4.out.1 hb, fun e => by have h1 := (HO4.out.row b e).2; have hb : w4.heap.size ≤ b := hb; omega⟩)
                  · rw [List.length_take]; show _ * 48 ≤ _; omega
                  · rw [List.length_take]; unfold maxLen; omega
                  · exact Nat.le_trans HZ4.out.1 (Nat.le_trans B5.out.size BA.out.size)
                  intro b6 d6 w6 ho6 g6
                  have B56 : Hid _ := on B5.out BA.out
                  have HO6 : Hid (Owns rSnp 66 w6 wX.heap.size (.slice b6 (min k l.length + 1) d6) (l.take (k + 1))) := by unfold Hid; rw [HTk.out, ← List.length_take]; exact ho6
                  have K6 : Hid (Kept (fun b => b < wX.heap.size ∧ b ≠ bx) wX w6) := (HK4.out.on (fun b hb => Nat.lt_of_lt_of_le hb.1 HZ4.out.1) B56.out).grown g6 (fun b hb => Nat.lt_of_lt_of_le hb.1 (Nat.le_trans HZ4.out.1 B56.out.size)) (fun j hj hs => by have := (HO4.out.row j hj).1; have := hs.1; omega)
                  have V6 : Hid (Row w6 bx 31 [.slice (some ⟨g, 0, none⟩) n n, v, .int .i64 next]) := (HRow4.out _ B56.out).keep (g6.block bx (Nat.lt_of_lt_of_le HBX4.out.1 B56.out.size) HBX4.out.2.2)
                  have R6 : Hid (Row w6 wr.heap.size 66 [.int .i64 id, .string nm, .slice x xm xd]) := (HV4.out.below B56.out).keep (g6.block _ (Nat.lt_of_lt_of_le HV4.out.lt B56.out.size) HBX4.out.2.1)
                  have S3 := And.intro (R6.out.cell (j := 0) rfl) (And.intro (R6.out.cell (j := 1) rfl) (R6.out.cell (j := 2) rfl))
                  clear ho6 g6
                  try go_simp
                  refine hK.out _ _ ?_ (fun hH => ?_)
                  · try dsimp only
                    first | exact S4 | exact S3 | exact S2 | exact S1 | exact S0
                  clear hK K
                  refine tkM 12 _ rfl rfl ?_; simp only [sz, ss]
                  refine r1L 13 rfl fun K hK => ?_
                  · have p1 := V6.out.cell (j := 1) rfl
                    have f1 := V6.out.frozen 1
                    have R7 := R6.out.keep (Below.heap_setCell w6 ⟨bx, 1, none⟩ (.slice b6 (min k l.length + 1) d6) wr.heap.size (fun e => HBN.out e.symm))
                    have S4 := And.intro (R7.cell (j := 0) rfl) (And.intro (R7.cell (j := 1) rfl) (R7.cell (j := 2) rfl))
                    have HV7 : Hid (Row (w6.setCell ⟨bx, 1, none⟩ (.slice b6 (min k l.length + 1) d6)) bx 31 [.slice (some ⟨g, 0, none⟩) n n, .slice b6 (min k l.length + 1) d6, .int .i64 next]) := V6.out.set 1 _
                    have HO7 : Hid (Owns rSnp 66 (w6.setCell ⟨bx, 1, none⟩ (.slice b6 (min k l.length + 1) d6)) wX.heap.size (.slice b6 (min k l.length + 1) d6) (l.take (k + 1))) := HO6.out.setCell (p := ⟨bx, 1, none⟩) HBXl.out _
                    have K7 : Hid (Kept (fun b => b < wX.heap.size ∧ b ≠ bx) wX (w6.setCell ⟨bx, 1, none⟩ (.slice b6 (min k l.length + 1) d6))) := K6.out.setCell (p := ⟨bx, 1, none⟩) (fun h => h.2 rfl) _
                    clear R7
                    go_simp
                    refine hK.out _ _ ?_ (fun hH => ?_)
                    · try dsimp only
                      first | exact S4 | exact S3 | exact S2 | exact S1 | exact S0
                    clear hK K
                    refine wpAnyH_done (by kernel_rfl) ?_ _
                    clear hH p1 f1 S4 S3
                    go_wp2
                    go_roundw
                    case rel => exact ⟨k + 1, _, by omega, by go_num, HV7, HO7, K7⟩
                    case measure => simp [intOf]; omega
            exact rnL
          exact rnL
        · obtain rfl : m = k := by omega
          have HF : Hid (l.take m = l) := List.take_of_length_le (by rw [HM.out]; exact Nat.le_refl _)
          obtain ⟨va, vc, hv, -⟩ := Owns.rd (hs := by decide) HOr.out (by rw [List.length_take]; show _ * 48 ≤ _; omega)
          obtain ⟨vn, hvn⟩ : ∃ vn, (l.take m).length = vn := ⟨_, rfl⟩
          rw [hvn] at hv
          subst hv
          clear hvn
          have p0 := HVr.out.cell (j := 0) rfl
          have p1 := HVr.out.cell (j := 1) rfl
          have p2 := HVr.out.cell (j := 2) rfl
          have HVq : Hid _ := HVz.out.below BR.out
          have q0 := HVq.out.cell (j := 0) rfl
          have q1 := HVq.out.cell (j := 1) rfl
          have q2 := HVq.out.cell (j := 2) rfl
          have f0 := HVq.out.frozen 0
          have f1 := HVq.out.frozen 1
          have f2 := HVq.out.frozen 2
          have V3 := ((HVq.out.set 0 (.slice (some ⟨g, 0, none⟩) n n)).set 1 (.slice va vn vc)).set 2 (.int .i64 next)
          have HV3 : Hid _ := V3
          clear V3
          go_wp2
          refine bodyPost_ret (q1q rfl rfl HV3.out Try.underlying31 rfl (by kernel_rfl)) rfl ⟨g, vs, _, rfl, ?_, ?_, ?_, ?_, ?_⟩
          · have h1 := HZZ.out; have h2 := HBX9.out.2.2.2.2.2; unfold Hid at h1; omega
          · exact Nat.lt_of_lt_of_le (Nat.lt_of_lt_of_le HBX9.out.2.2.2.2.1 HZr.out) (kept3 wr w0.heap.size _ _ _).size
          · exact (HDX.out wr HKr.out).keepB (fun b hb hl => (kept3 wr w0.heap.size _ _ _).block b (by have h1 := HZZ.out; have h2 := HBX9.out.2.2.2.2.2; unfold Hid at h1; omega)) (Nat.lt_of_lt_of_le HBX9.out.2.2.2.2.1 HZr.out)
          · have ho := HOr.out.low (base' := g + 1) HBX9.out.2.2.2.2.1
            rw [HF.out] at ho
            exact ho.keep (fun b hb hl => (kept3 wr w0.heap.size _ _ _).block b (by have h1 := HZZ.out; have h2 := HBX9.out.2.2.2.2.2; unfold Hid at h1; omega))
          · exact (((on BZ.out BR.out).setCell (p := ⟨w0.heap.size, 0, none⟩) (Nat.le_of_lt HZZ.out.1) _).setCell (p := ⟨w0.heap.size, 1, none⟩) (Nat.le_of_lt HZZ.out.1) _).setCell (p := ⟨w0.heap.size, 2, none⟩) (Nat.le_of_lt HZZ.out.1) _
 exact rnL
end Go.Proofs.Ytoophkmnppoppaa
