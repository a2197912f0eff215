/-
  Facts that the proof rests on, part 16. Conditions: those that each of them names.
-/
import Derived.Test.YtoophkmnppoppaaM00
import Derived.Test.YtoophkmnppoppaaM10
import Derived.Test.YtoophkmnppoppaaM13
import Derived.Test.YtoophkmnppoppaaM14
namespace Go.Proofs.Ytoophkmnppoppaa
set_option maxHeartbeats 16000000
open Go.RowKit
set_option linter.unusedVariables false
set_option maxRecDepth 20000 in
theorem qGX (f : Nat) (bs : Array Value) (eg : ∀ args w, (callFunc f args).run Try.prog w = .ok (.enter f args) w) (w : World) (P : Nat → Prop) (gb L cap : Nat) (T : List Tri) (rest : List Value) (l : List Snp) (hR : Row w gb 66 (q2X T ++ rest)) (hP : P gb) (hT : T.length = l.length) (hl : l.length = L) (hc : L ≤ cap) (h8 : L ≤ 8)
 (hE : ∀ (j : Nat) (h1 : j < T.length) (h2 : j < l.length), T[j].1 = l[j].1 ∧ T[j].2.1 = l[j].2.1 ∧ rSectors.rd w P [T[j].2.2] l[j].2.2 ∧ (-9223372036854775808 ≤ l[j].1 ∧ l[j].1 ≤ 9223372036854775807) ∧ l[j].2.1.size ≤ maxLen) (hcap : (q2X T ++ rest).length = cap * 3) (ask : Snp → Bool) (p : Nat) (hp : p < L) (hidx : idxZ ask l = (p : Int)) (hno : ∀ j (hj : j < l.length), p < j → ask l[j] = false)
 (hf : ∀ w1, Kept (fun b => b < w.heap.size ∧ b ≠ gb) w w1 → ∀ y ∈ l, ∀ v : Value, Calls Try.prog f (#[.agg #[.int .i64 y.1, .string y.2.1, v]] ++ bs) w1 fun e w' => e = .returned (.bool (ask y)) ∧ Below w1.heap.size w1 w') :
 Calls Try.prog 50 #[.slice (some ⟨gb, 0, none⟩) L cap, .func (.func f) #[] bs] w fun e w' => ∃ rest', e = .returned (.slice (some ⟨gb, 0, none⟩) (L - 1) cap) ∧ Row w' gb 66 (q2X (T.eraseIdx p) ++ rest') ∧ Kept (fun b => b < w.heap.size ∧ b ≠ gb) w w' := by
 have HS : Hid (rSnps.rd w P [.slice (some ⟨gb, 0, none⟩) L cap] l) := snps_of hR hP hT hl hc h8 hE
 have HR : Hid _ := hR
 have HF : Hid _ := hf
 have HT : Hid (T.length = L) := by unfold Hid; omega
 have HL : Hid (l.length = L) := hl
 have HE : Hid (∀ (j : Nat) (h1 : j < T.length) (h2 : j < l.length), T[j].1 = l[j].1 ∧ T[j].2.1 = l[j].2.1 ∧ ∃ a n c, T[j].2.2 = .slice a n c) := fun j h1 h2 => ⟨(hE j h1 h2).1, (hE j h1 h2).2.1, by
  obtain ⟨a, n, c, e, -⟩ := (hE j h1 h2).2.2.1
  exact ⟨a, n, c, by simpa using e⟩⟩
 have HI : Hid _ := hidx
 have HNo : Hid _ := hno
 have HCap : Hid _ := hcap
 have HC : Hid (L ≤ cap) := hc
 have HG : Hid (gb < w.heap.size) := hR.lt
 clear hR hf hT hl hE hidx hno hcap hc hP
 have hpz : ¬ ((p : Int) = -1) := by omega
 go_enter Try.func50, Try.ntmps50
 go_wp2_with fail
 go_at_call 51
 refine Calls.mono (qBj f bs eg w P _ L cap l HS.out ask (fun w1 b1 y hy v _ => HF.out w1 ((Kept.below b1).mono (fun b hb => hb.1)) y hy v)) ?_
 rw [HI.out]
 rintro e w1 ⟨rfl, b1⟩
 have B1 : Hid _ := b1
 have HR1 : Hid (Row w1 gb 66 (q2X (q5X T p p) ++ rest)) := by unfold Hid; rw [moved_start (by have := HT.out; unfold Hid at *; omega)]; exact HR.out.below b1
 clear b1
 go_wp2
 have hpb : ((p : Int) == -1) = false := beq_eq_false_iff_ne.2 hpz
 rw [hpb]
 clear hpb hpz
 go_loopw [5, 6] (fun i j wr => ∃ q : Nat, p ≤ q ∧ q < L ∧ i = .int .i64 q ∧ j = .int .i64 (q + 1) ∧ Hid (Row wr gb 66 (q2X (q5X T p q) ++ rest)) ∧ Hid (Kept (fun b => b < w.heap.size ∧ b ≠ gb) w wr)) (fun i _ _ => L - (intOf i).toNat)
 case atStart => exact ⟨p, Nat.le_refl _, hp, rfl, by first | rfl | go_num, HR1.out, (Kept.below B1.out).mono (fun b hb => hb.1)⟩
 case round =>
  obtain ⟨q, hpq, hq, rfl, rfl, HRq, HKq⟩ := hrel
  by_cases hlt : q + 1 < L
  · have hq1 : q + 1 < T.length := by have := HT.out; unfold Hid at *; omega
    have hq2 : q + 1 < l.length := by have := HL.out; unfold Hid at *; omega
    have hml : (q5X T p q).length = T.length := moved_len (by omega) (by omega)
    obtain ⟨c0, c1, c2⟩ := qEq (q5X T p q) rest (q + 1) (by omega)
    rw [moved_at (by omega) hq1 (by omega)] at c0 c1 c2
    have d0 := HRq.out.cell c0
    have d1 := HRq.out.cell c1
    have d2 := HRq.out.cell c2
    obtain ⟨X, hX⟩ : ∃ X, X = T[q + 1] := ⟨_, rfl⟩
    obtain ⟨hx1, hx2, sx, sm, sd, hx3⟩ := HE.out (q + 1) hq1 hq2
    have HSt : Hid ((q5X T p q).set q X = q5X T p (q + 1)) := by unfold Hid; rw [hX]; exact moved_step hpq hq1
    rw [← hX] at d0 d1 d2 hx1 hx2 hx3
    obtain ⟨id, nm, sv⟩ := X
    simp only at d0 d1 d2 hx1 hx2 hx3
    subst hx3
    obtain ⟨w4, hw4, V4, b4, z4⟩ := q0q wr 66 [.int .i64 id, .string nm, .slice sx sm sd]
    have HV4 : Hid _ := V4
    have e0 := V4.cell (j := 0) rfl
    have e1 := V4.cell (j := 1) rfl
    have e2 := V4.cell (j := 2) rfl
    have hK4 : Kept (fun b => b < w.heap.size ∧ b ≠ gb) w w4 := HKq.out.on (fun b hb => Nat.lt_of_lt_of_le hb.1 HKq.out.size) b4
    have hcall := HF.out w4 hK4 l[q + 1] (List.getElem_mem hq2) (.slice sx sm sd)
    rw [HNo.out (q + 1) hq2 (by omega), ← hx1, ← hx2] at hcall
    have HK4 : Hid _ := hK4
    have HR4 : Hid _ := HRq.out.below b4
    have hqz : (q : Int) + 1 < (L : Int) := by omega
    have HMl : Hid ((q5X T p q).length = T.length) := hml
    have HTl : Hid (q + 1 < T.length) := hq1
    clear hX V4 b4 z4 hK4 c0 c1 c2 hml hx1 hx2 hq1 hq2
    go_wp2_with (go_at_fn f; refine hcall.mono ?_; rintro e w5 ⟨rfl, b5⟩; have V5 := HV4.out.below b5; have e0 := V5.cell (j := 0) rfl; have e1 := V5.cell (j := 1) rfl; have e2 := V5.cell (j := 2) rfl; have HR5 := HR4.out.below b5; obtain ⟨k0, k1, k2⟩ := qEq (q5X T p q) rest q (by have h1 := HMl.out; have h2 := HTl.out; unfold Hid at *; omega); have g0 := HR5.cell k0; have g1 := HR5.cell k1; have g2 := HR5.cell k2; have f0 := HR5.frozen (q * 3); have f1 := HR5.frozen (q * 3 + 1); have f2 := HR5.frozen (q * 3 + 2); obtain ⟨w6, hw6, V6, K6⟩ := setThree HR5 (j := q) (by have h1 := HMl.out; have h2 := HTl.out; unfold Hid at *; omega) (id, nm, .slice sx sm sd); have HV6 : Hid _ := V6; have HK6 : Hid (Kept (fun b => b < w.heap.size ∧ b ≠ gb) w w6) := (HK4.out.on (fun b hb => Nat.lt_of_lt_of_le hb.1 HK4.out.size) b5).trans (K6.mono (fun b hb => hb.2)); clear V6 K6)
    go_roundw
    case rel => exact ⟨q + 1, by omega, hlt, by go_num, by go_num, by rw [← HSt.out]; exact HV6, HK6⟩
    case measure => simp [intOf]; omega
  · have hq1 : q + 1 = L := by omega
    have hLq : L - q = 1 := by omega
    have hml : (q5X T p q).length = L := by rw [moved_len (by have := HT.out; unfold Hid at *; omega) (by have := HT.out; unfold Hid at *; omega)]; exact HT.out
    have hqc : ¬ (cap = q) := by have := HC.out; unfold Hid at *; omega
    have hqcz : (q : Int) ≤ (cap : Int) := by have := HC.out; unfold Hid at *; omega
    obtain ⟨w7, zs, hzl, hr7, R7, k7, z7⟩ := clear_run3 (Pr := Try.prog) wr 29 0 66 Try.underlying29 (.agg #[.int .i64 0, .string ByteArray.empty, .slice none 0 0]) (fun w => by kernel_rfl) rfl (by decide) (some ⟨gb, q * 3, none⟩) 1 (cap - q) gb (q * 3) _ 66 HRq.out (fun _ => rfl) (by rw [List.length_append, qBx, hml]; omega)
    have HRun : Hid _ := hr7
    have HR7 : Hid (Row w7 gb 66 (q2X (T.eraseIdx p) ++ (zs ++ rest))) := by
     have e : splice (q2X (q5X T p q) ++ rest) (q * 3) zs = q2X (T.eraseIdx p) ++ (zs ++ rest) := by
      have h1 : (q2X (T.eraseIdx p)).length = q * 3 := by rw [qBx, List.length_eraseIdx_of_lt (by have := HT.out; unfold Hid at *; omega)]; have := HT.out; unfold Hid at *; omega
      have h2 : (q2X (T.drop q)).length = zs.length := by rw [qBx, List.length_drop, hzl]; have := HT.out; unfold Hid at *; omega
      rw [moved_end (by have := HT.out; unfold Hid at *; omega) (by have := HT.out; unfold Hid at *; omega), qDz]
      exact splice_mid h1 h2
     unfold Hid
     rw [← e]
     exact R7
    have HK7 : Hid (Kept (fun b => b < w.heap.size ∧ b ≠ gb) w w7) := HKq.out.trans (k7.mono (fun b hb => hb.2))
    have HLq : Hid (q = L - 1) := by unfold Hid; omega
    clear hr7 R7 k7 z7 hml hzl
    go_wp2
    rw [HRun.out]
    go_wp2
    go_ret
    exact ⟨_, by show Ending.returned (.slice (some ⟨gb, 0, none⟩) q cap) = _; rw [HLq.out], HR7.out, HK7.out⟩
theorem isIt_u (w : World) (B : Nat) (k at' N id : Int) (nm : ByteArray) (xv : Value) (V : Row w B 33 [.int .i64 k, .int .i64 at', .int .i64 N, .int .i64 id, .string nm, xv]) (y : Snp) (v : Value) :
 Calls Try.prog 47 (#[.agg #[.int .i64 y.1, .string y.2.1, v]] ++ #[.pointer (some ⟨B, 0, none⟩)]) w fun e w' => e = .returned (.bool (decide (y.1 = id))) ∧ Below w.heap.size w w' := by
 show Calls Try.prog 47 #[.agg #[.int .i64 y.1, .string y.2.1, v], .pointer (some ⟨B, 0, none⟩)] w _
 obtain ⟨w0, hw0, V0, b0, z0⟩ := q0q w 66 [.int .i64 y.1, .string y.2.1, v]
 have c3 := (V.below b0).cell (j := 3) rfl
 have d0 := V0.cell (j := 0) rfl
 clear V V0 z0
 go_enter Try.func47, Try.ntmps47
 go_wp2
 all_goals go_ret
 all_goals exact ⟨rfl, b0⟩
set_option maxRecDepth 20000 in
theorem done6_u (wK w : World) (P : Nat → Prop) (bs g n : Nat) (vs : List Value) (v : Value) (s : Sta) (H : StAt wK w bs g n vs v s) (hok : Mo.ok s = true) (at' N id : Int) (nm : ByteArray) (dt : List UInt8) (xa : Option Addr) (xn xc : Nat) (hX : rBytes.rd w P [.slice xa xn xc] dt) (h2 : I64 at') (h3 : I64 N) (h4 : I64 id) (hs : nm.size ≤ maxLen) (he : Mo.opE s (6, at', N, id, nm, dt) = 0) :
 Calls Try.prog 31 #[.pointer (some ⟨bs, 0, none⟩), .agg #[.int .i64 6, .int .i64 at', .int .i64 N, .int .i64 id, .string nm, .slice xa xn xc]] w (qJx wK w bs g (Mo.chgS s (6, at', N, id, nm, dt)) (Mo.chgD s (6, at', N, id, nm, dt)) (Mo.chgI s (6, at', N, id, nm, dt)) (Mo.chgL s (6, at', N, id, nm, dt))) := by
 have hF := (Mo.ok_iff s).1 hok
 have hl8 := hF.few
 have hnx : -9223372036854775808 ≤ s.2.2 ∧ s.2.2 ≤ 9223372036854775807 := by have := hF.low; have := hF.high; omega
 have hn : n ≤ 65536 := by have h1 := (Mo.okDisk_iff.1 hF.now).1; rw [H.len] at h1; exact h1
 obtain ⟨va, vc, hv, hsn⟩ := H.list hl8
 have hdk : DiskR wK (fun b => g + 1 ≤ b ∧ b < wK.heap.size) g vs s.1 := H.disk.weaken (fun b hb hl => ⟨hb.1, hl⟩)
 have hlenD := H.len
 have he' : Mo.findE (Mo.named s.2.1) id = 0 := he
 obtain ⟨e1, e2⟩ := Mo.place_lt he'
 obtain ⟨p, hp⟩ : ∃ p, p = Mo.place s.2.1 id := ⟨_, rfl⟩
 rw [← hp] at e1
 obtain ⟨L, hL⟩ : ∃ L, L = s.2.1.length := ⟨_, rfl⟩
 rw [← hL] at e1 hl8 hv
 subst hv
 obtain ⟨sg, so, rfl, -, hsg, hat⟩ := q1J hsn (by omega)
 obtain ⟨dx, dm, dd, hdd, hdl, -, -, hc2, -, -⟩ := hat p (by omega)
 obtain ⟨dk, hdk2⟩ : ∃ dk, dk = s.2.1[p].2.2 := ⟨_, rfl⟩
 rw [← hdk2] at hdd hdl
 have HDd : Hid (rSectors.rd wK (fun b => g + 1 ≤ b ∧ b < wK.heap.size) [.slice dx dm dd] dk) := hdd
 have HDl : Hid (dk.length = dm ∧ dm * 24 ≤ 140737488351232) := ⟨hdl, (q0Q hdd).2.2.2⟩
 have HSg : Hid (sg < wK.heap.size) := hsg
 have HIdx : Hid (idxZ (fun y : Snp => decide (y.1 = id)) s.2.1 = (p : Int)) := by
  unfold Hid idxZ
  rw [if_pos (List.any_eq_true.2 ⟨s.2.1[p], List.getElem_mem _, ?_⟩), hp]
  · rfl
  · have := e2 (by omega)
    subst hp
    simpa using this
 have HChS : Hid (Mo.chgS s (6, at', N, id, nm, dt) = (dk, s.2.1, s.2.2)) := by
  unfold Hid
  show (Mo.diskOf s.2.1 id, s.2.1, s.2.2) = _
  rw [Mo.diskOf_eq (by omega), hdk2]
  subst hp
  rfl
 have HChI : Hid (Mo.chgI s (6, at', N, id, nm, dt) = 0) := by unfold Hid; rfl
 have HChL : Hid (Mo.chgL s (6, at', N, id, nm, dt) = []) := by unfold Hid; rfl
 have HChD : Hid (Mo.chgD s (6, at', N, id, nm, dt) = []) := by unfold Hid; rfl
 obtain ⟨w0, hw0, V0, b0, z0⟩ := q0q w 33 [.int .i64 6, .int .i64 at', .int .i64 N, .int .i64 id, .string nm, .slice xa xn xc]
 obtain ⟨w1, hw1, V1, b1, z1⟩ := q0q w0 38 [.int .i64 0, .slice none 0 0, .int .i64 0, .slice none 0 0, .int .i64 0]
 have B1 : Hid (Below w.heap.size w w1) := on b0 b1
 have HXR : Hid (Row w1 w.heap.size 33 [.int .i64 6, .int .i64 at', .int .i64 N, .int .i64 id, .string nm, .slice xa xn xc]) := V0.below b1
 have HRR : Hid _ := V1
 have HZ : Hid (w0.heap.size = w.heap.size + 1 ∧ w1.heap.size = w.heap.size + 2) := ⟨z0, by omega⟩
 have HBx : Hid (Row w1 bs 31 [.slice (some ⟨g, 0, none⟩) n n, .slice (some ⟨sg, so, none⟩) L vc, .int .i64 s.2.2]) := H.box.below B1.out
 have HB : Hid (g < wK.heap.size ∧ wK.heap.size ≤ bs ∧ bs < w.heap.size ∧ wK.heap.size ≤ w.heap.size) := ⟨H.hg, H.hb, H.box.lt, H.bel.size⟩
 have BK : Hid (Below wK.heap.size wK w1) := H.bel.trans (B1.out.mono H.bel.size)
 have HDK : Hid _ := hdk
 have HSN : Hid _ := hsn
 have HD : Hid (s.1.length = n) := hlenD
 have HXd : Hid (rBytes.rd w1 (fun b => b < w.heap.size) [.slice xa xn xc] dt) := Rep.below (rBytes.weaken hX (fun b _ hl => hl)) B1.out
 have HNX : Hid _ := hnx
 have HL8 : Hid _ := hl8
 have HOwn : Hid _ := H.snaps
 have HFine : Hid _ := hF
 have x0 := HXR.out.cell (j := 0) rfl
 have HSn1 : Hid (rSnps.rd w1 (fun b => g + 1 ≤ b ∧ b < wK.heap.size) [.slice (some ⟨sg, so, none⟩) L vc] s.2.1) := Rep.below HSN.out BK.out
 have HSee : Hid (∀ w', Below w1.heap.size w1 w' → w'.cell? ⟨bs, 1, none⟩ = some (.slice (some ⟨sg, so, none⟩) L vc) ∧ w'.cell? ⟨sg, so + p * 3 + 2, none⟩ = some (.slice dx dm dd)) := fun w' hb => ⟨(HBx.out.below hb).cell (j := 1) rfl, (hb.cell (p := ⟨sg, so + p * 3 + 2, none⟩) (Nat.lt_of_lt_of_le HSg.out (Nat.le_trans HB.out.2.2.2 B1.out.size))).trans ((BK.out.cell (p := ⟨sg, so + p * 3 + 2, none⟩) HSg.out).trans hc2)⟩
 have S0 := HSee.out _ (Below.refl _ w1).drew
 have hpL : (p : Int) < (L : Int) := by omega
 clear H hdk hsn hlenD hX hnx hF V0 V1 b0 b1 z0 z1 h4 hs hok hl8 he he' h2 h3 hat hdd hdl hsg hc2 e1 e2 hp hL hdk2
 go_enter Try.func31, Try.ntmps31
 go_wp2_with fail
 refine wp_region_held_drew (S := (fun w' : World => w'.cell? ⟨bs, 1, none⟩ = some (.slice (some ⟨sg, so, none⟩) L vc) ∧ w'.cell? ⟨sg, so + p * 3 + 2, none⟩ = some (.slice dx dm dd))) (by kernel_rfl) (S0) (fun hH => ?_)
 refine tkM 0 _ rfl rfl ?_; simp only [sz, ss]
 refine tkM 1 _ rfl rfl ?_; simp only [sz, ss]
 refine tkM 2 _ rfl rfl ?_; simp only [sz, ss]
 refine tkM 3 _ rfl rfl ?_; simp only [sz, ss]
 refine tkM 4 _ rfl rfl ?_; simp only [sz, ss]
 refine tkM 5 _ rfl rfl ?_; simp only [sz, ss]
 refine tkM 6 _ rfl rfl ?_; simp only [sz, ss]
 refine tkM 7 _ rfl rfl ?_; simp only [sz, ss]
 refine tkM 8 _ rfl rfl ?_; simp only [sz, ss]
 refine tkM 9 _ rfl rfl ?_; simp only [sz, ss]
 refine r1L 10 rfl fun K hK => ?_
 · go_simp
   go_at_call 51
   refine Calls.mono (qBj 47 #[.pointer (some ⟨w.heap.size, 0, none⟩)] (fun _ _ => rfl) w1.drew (fun b => g + 1 ≤ b ∧ b < wK.heap.size) (some ⟨sg, so, none⟩) L vc s.2.1 (rSnps.keep HSn1.out (fun _ _ _ => rfl)) (fun y => decide (y.1 = id)) (fun w2 b2 y _ u _ => isIt_u w2 w.heap.size 6 at' N id nm _ (HXR.out.below ((Below.refl _ w1).drew.trans b2)) y u)) ?_
   rw [HIdx.out]
   rintro e w5 ⟨rfl, bd5⟩
   have B5 : Hid (Below w1.heap.size w1 w5) := (Below.refl w1.heap.size w1).drew.trans bd5
   have S1 := HSee.out _ B5.out
   clear bd5
   go_simp
   refine hK.out _ _ ?_ (fun hH => ?_)
   · try dsimp only
     first | exact S3 | exact S2 | exact S1 | exact S0
   clear hK K
   refine tkM 11 _ rfl rfl ?_; simp only [sz, ss]
   refine tkM 12 _ rfl rfl ?_; simp only [sz, ss]
   refine tkM 13 _ rfl rfl ?_; simp only [sz, ss]
   refine r1L 14 rfl fun K hK => ?_
   · go_simp
     go_at_call 46
     refine Calls.mono (q2j w5 (fun b => g + 1 ≤ b ∧ b < wK.heap.size) dx dm dd dk (Rep.below (Rep.below HDd.out BK.out) B5.out)) ?_
     rintro e w6 ⟨g5, vs5, rfl, hgs, hgl, hda, bd6⟩
     have B6 : Hid _ := on B5.out bd6
     have HR6 : Hid (rSectors.rd w6 (fun b => w1.heap.size ≤ b) [.slice (some ⟨g5, 0, none⟩) dm dm] dk) := rSectors.weaken (hda.rd HDl.out.1 HDl.out.2 (hgl g5 (Nat.lt_succ_self g5))) (fun b hb _ => Nat.le_trans (Nat.le_trans B5.out.size hgs) hb)
     have S2 := HSee.out _ B6.out
     have V6 : Hid _ := HBx.out.below B6.out
     clear hgs hda bd6 hgl
     go_simp
     refine hK.out _ _ ?_ (fun hH => ?_)
     · try dsimp only
       first | exact S3 | exact S2 | exact S1 | exact S0
     clear hK K
     refine tkM 15 _ rfl rfl ?_; simp only [sz, ss]
     refine tkM 16 _ rfl rfl ?_; simp only [sz, ss]
     refine r1L 17 rfl fun K hK => ?_
     · have y0 := V6.out.cell (j := 0) rfl
       have z0 := V6.out.frozen 0
       obtain ⟨w7, hw7⟩ : ∃ w7, w6.setCell ⟨bs, 0, none⟩ (.slice (some ⟨g5, 0, none⟩) dm dm) = w7 := ⟨_, rfl⟩
       have V7 : Hid (Row w7 bs 31 [.slice (some ⟨g5, 0, none⟩) dm dm, .slice (some ⟨sg, so, none⟩) L vc, .int .i64 s.2.2]) := by rw [← hw7]; exact V6.out.set 0 _
       have K7 : Hid (Kept (· ≠ bs) w6 w7) := by rw [← hw7]; exact (Kept.refl _ w6).setCell (p := ⟨bs, 0, none⟩) (fun h => h rfl) _
       have S3 := And.intro (V7.out.cell (j := 1) rfl) (K7.out.cell (p := ⟨sg, so + p * 3 + 2, none⟩) (by show sg ≠ bs; have := HSg.out; (have h8 := HB.out; have h9 := HZ.out; unfold Hid at h8 h9; omega)) S2.2)
       go_simp
       refine hK.out _ _ ?_ (fun hH => ?_)
       · try dsimp only
         first | exact S3 | exact S2 | exact S1 | exact S0
       clear hK K
       refine wpAnyH_done (by kernel_rfl) ?_ _
       clear hH y0 z0 S3
       have HRR7 : Hid (Row w7 w0.heap.size 38 [.int .i64 0, .slice none 0 0, .int .i64 0, .slice none 0 0, .int .i64 0]) := (HRR.out.below B6.out).keep (K7.out.block w0.heap.size (by show w0.heap.size ≠ bs; (have h8 := HB.out; have h9 := HZ.out; unfold Hid at h8 h9; omega)))
       have r0 := HRR7.out.cell (j := 0) rfl
       have r1 := HRR7.out.cell (j := 1) rfl
       have r2 := HRR7.out.cell (j := 2) rfl
       have r3 := HRR7.out.cell (j := 3) rfl
       have r4 := HRR7.out.cell (j := 4) rfl
       have f0 := HRR7.out.frozen 0
       have f1 := HRR7.out.frozen 1
       have f2 := HRR7.out.frozen 2
       have f3 := HRR7.out.frozen 3
       have f4 := HRR7.out.frozen 4
       obtain ⟨w9, hw9, V9, K9⟩ := HRR7.out.whole5 (.int .i64 0) (.slice none 0 0) (.int .i64 0) (.slice none 0 0) (.int .i64 0)
       have HV9 : Hid _ := V9
       have HK9 : Hid _ := K9
       clear V9 K9
       go_wp2
       refine bodyPost_ret (q1q rfl rfl HV9.out Try.underlying38 rfl (by kernel_rfl)) rfl ⟨_, none, 0, 0, none, 0, 0, bs, by rfl, V7.out.keep (HK9.out.block bs (by show bs ≠ w0.heap.size; (have h8 := HB.out; have h9 := HZ.out; unfold Hid at h8 h9; omega))), ?_, by rw [HChD.out]; exact q2x _ _, by rw [HChL.out]; exact q0Z _ _, .inl rfl, ?_, ?_⟩
       · rw [HChS.out]
         refine q2Q (s := (dk, s.2.1, s.2.2)) (rSectors.weaken (Rep.kept (Rep.kept HR6.out K7.out (fun b hb _ => ?_)) HK9.out (fun b hb _ => ?_)) (fun b hb _ => ?_)) (rSnps.weaken (Rep.kept (Rep.kept (Rep.below HSn1.out B6.out) K7.out (fun b hb _ => ?_)) HK9.out (fun b hb _ => ?_)) (fun b hb _ => ?_)) HNX.out
         all_goals (have h1 := HB.out; have h2 := HZ.out; unfold Hid at h1 h2; (try dsimp only at hb ⊢); omega)
       · exact Nat.lt_of_lt_of_le V7.out.lt HK9.out.size
       · exact ((Kept.below (on B1.out B6.out)).mono (fun b hb => hb.1)).trans ((K7.out.mono (fun b hb => hb.2.1)).trans (HK9.out.mono (fun b hb => by have := HZ.out; unfold Hid at this; have := hb.1; omega)))
set_option maxRecDepth 20000 in
theorem done5_u (wK w : World) (P : Nat → Prop) (bs g n : Nat) (vs : List Value) (v : Value) (s : Sta) (H : StAt wK w bs g n vs v s) (hok : Mo.ok s = true) (at' N id : Int) (nm : ByteArray) (dt : List UInt8) (xa : Option Addr) (xn xc : Nat) (hX : rBytes.rd w P [.slice xa xn xc] dt) (h2 : I64 at') (h3 : I64 N) (h4 : I64 id) (hs : nm.size ≤ maxLen) (he : Mo.opE s (5, at', N, id, nm, dt) = 0) :
 Calls Try.prog 31 #[.pointer (some ⟨bs, 0, none⟩), .agg #[.int .i64 5, .int .i64 at', .int .i64 N, .int .i64 id, .string nm, .slice xa xn xc]] w (qJx wK w bs g (Mo.chgS s (5, at', N, id, nm, dt)) (Mo.chgD s (5, at', N, id, nm, dt)) (Mo.chgI s (5, at', N, id, nm, dt)) (Mo.chgL s (5, at', N, id, nm, dt))) := by
 have hF := (Mo.ok_iff s).1 hok
 have hl8 := hF.few
 have hnx : -9223372036854775808 ≤ s.2.2 ∧ s.2.2 ≤ 9223372036854775807 := by have := hF.low; have := hF.high; omega
 have hn : n ≤ 65536 := by have h1 := (Mo.okDisk_iff.1 hF.now).1; rw [H.len] at h1; exact h1
 obtain ⟨va, vc, hv, hsn⟩ := H.list hl8
 have hdk : DiskR wK (fun b => g + 1 ≤ b ∧ b < wK.heap.size) g vs s.1 := H.disk.weaken (fun b hb hl => ⟨hb.1, hl⟩)
 have hlenD := H.len
 have he' : Mo.findE (Mo.named s.2.1) id = 0 := he
 obtain ⟨e1, e2⟩ := Mo.place_lt he'
 obtain ⟨p, hp⟩ : ∃ p, p = Mo.place s.2.1 id := ⟨_, rfl⟩
 rw [← hp] at e1
 have e2' : s.2.1[p].1 = id := by subst hp; exact e2 e1
 obtain ⟨L, hL⟩ : ∃ L, s.2.1.length = L := ⟨_, rfl⟩
 have hpL : p < L := by omega
 have hL8 : L ≤ 8 := by omega
 obtain ⟨xs, ho, hrd⟩ := H.snaps
 obtain ⟨gb, cap, cur, rfl, hgb, hhp, hLc, -, hcs, hxs⟩ : ∃ (gb cap : Nat) (cur : Array Value), v = .slice (some ⟨gb, 0, none⟩) L cap ∧ g + 1 ≤ gb ∧ wK.heap[gb]? = some (.cells cur 66 (0, 0)) ∧ L ≤ cap ∧ True ∧ cur.size = cap * 3 ∧ cur.toList.take (L * 3) = xs := by
  rcases ho.2 with ⟨-, h0⟩ | ⟨gb, cap, cur, k1, k2, k3, k4, k5, k6, k7⟩
  · exfalso; omega
  · rw [hL] at k1 k4 k7
    exact ⟨gb, cap, cur, k1, k2, k3, k4, trivial, k6, k7⟩
 obtain ⟨T, hT1, hT2, hT3⟩ := qHj hrd
 obtain ⟨rest, hrest⟩ : ∃ rest, rest = cur.toList.drop (L * 3) := ⟨_, rfl⟩
 have hcur : cur.toList = q2X T ++ rest := by rw [hrest, ← hT1, ← hxs, List.take_append_drop]
 have hgl : gb < wK.heap.size := (Array.getElem?_eq_some_iff.1 hhp).1
 have HGb : Hid (g + 1 ≤ gb ∧ gb < wK.heap.size) := ⟨hgb, hgl⟩
 have HRK : Hid (Row wK gb 66 (q2X T ++ rest)) := ⟨by rw [← hcur, Array.toArray_toList]; exact hhp⟩
 have HTl : Hid (T.length = s.2.1.length) := hT2
 have HTe : Hid (∀ (j : Nat) (h1 : j < T.length) (h2 : j < s.2.1.length), T[j].1 = s.2.1[j].1 ∧ T[j].2.1 = s.2.1[j].2.1 ∧ rSectors.rd wK (fun b => g + 1 ≤ b ∧ b < wK.heap.size ∧ b ≠ gb) [T[j].2.2] s.2.1[j].2.2 ∧ (-9223372036854775808 ≤ s.2.1[j].1 ∧ s.2.1[j].1 ≤ 9223372036854775807) ∧ s.2.1[j].2.1.size ≤ maxLen) := fun j h1 h2 => by
  obtain ⟨g1, g2, g3, g4, g5⟩ := hT3 j h1 h2
  exact ⟨g1, g2, rSectors.weaken g3 (fun b hb hl => ⟨hb.1, hl, fun e => hb.2 (by rw [e]; rfl)⟩), g4, g5⟩
 have HDo : Hid (DiskR wK (fun b => g + 1 ≤ b ∧ b < wK.heap.size ∧ b ≠ gb) g vs s.1) := H.disk.weaken (fun b hb hl => ⟨hb.1, hl, fun e => hb.2 (by rw [e]; rfl)⟩)
 have HLen : Hid (s.2.1.length = L) := hL
 have HCp : Hid ((q2X T ++ rest).length = cap * 3) := by unfold Hid; rw [← hcur, Array.length_toList]; exact hcs
 have HLc : Hid (L ≤ cap) := hLc
 have HIdx : Hid (idxZ (fun y : Snp => decide (y.1 = id)) s.2.1 = (p : Int)) := by
  unfold Hid idxZ
  rw [if_pos (List.any_eq_true.2 ⟨s.2.1[p], List.getElem_mem _, by simpa using e2'⟩), hp]
  rfl
 have HNo : Hid (∀ j (hj : j < s.2.1.length), p < j → (fun y : Snp => decide (y.1 = id)) s.2.1[j] = false) := fun j hj hpj => by
  have h1 := (List.pairwise_iff_getElem.1 hF.apart p j e1 hj hpj).1
  have h2 : ¬ (s.2.1[j].1 = id) := by omega
  exact decide_eq_false h2
 have HChS : Hid (Mo.chgS s (5, at', N, id, nm, dt) = (s.1, s.2.1.eraseIdx p, s.2.2)) := by unfold Hid; rw [hp]; rfl
 have HChI : Hid (Mo.chgI s (5, at', N, id, nm, dt) = 0) := by unfold Hid; rfl
 have HChL : Hid (Mo.chgL s (5, at', N, id, nm, dt) = []) := by unfold Hid; rfl
 have HChD : Hid (Mo.chgD s (5, at', N, id, nm, dt) = []) := by unfold Hid; rfl
 obtain ⟨w0, hw0, V0, b0, z0⟩ := q0q w 33 [.int .i64 5, .int .i64 at', .int .i64 N, .int .i64 id, .string nm, .slice xa xn xc]
 obtain ⟨w1, hw1, V1, b1, z1⟩ := q0q w0 38 [.int .i64 0, .slice none 0 0, .int .i64 0, .slice none 0 0, .int .i64 0]
 have B1 : Hid (Below w.heap.size w w1) := on b0 b1
 have HXR : Hid (Row w1 w.heap.size 33 [.int .i64 5, .int .i64 at', .int .i64 N, .int .i64 id, .string nm, .slice xa xn xc]) := V0.below b1
 have HRR : Hid _ := V1
 have HZ : Hid (w0.heap.size = w.heap.size + 1 ∧ w1.heap.size = w.heap.size + 2) := ⟨z0, by omega⟩
 have HBx : Hid (Row w1 bs 31 [.slice (some ⟨g, 0, none⟩) n n, .slice (some ⟨gb, 0, none⟩) L cap, .int .i64 s.2.2]) := H.box.below B1.out
 have HB : Hid (g < wK.heap.size ∧ wK.heap.size ≤ bs ∧ bs < w.heap.size ∧ wK.heap.size ≤ w.heap.size) := ⟨H.hg, H.hb, H.box.lt, H.bel.size⟩
 have BK : Hid (Below wK.heap.size wK w1) := H.bel.trans (B1.out.mono H.bel.size)
 have HDK : Hid _ := hdk
 have HSN : Hid _ := hsn
 have HD : Hid (s.1.length = n) := hlenD
 have HXd : Hid (rBytes.rd w1 (fun b => b < w.heap.size) [.slice xa xn xc] dt) := Rep.below (rBytes.weaken hX (fun b _ hl => hl)) B1.out
 have HNX : Hid _ := hnx
 have HL8 : Hid _ := hl8
 have HFine : Hid _ := hF
 have x0 := HXR.out.cell (j := 0) rfl
 have HR1 : Hid _ := HRK.out.below BK.out
 have y1 := HBx.out.cell (j := 1) rfl
 clear H hdk hsn hv hlenD hX hnx hF V0 V1 b0 b1 z0 z1 h4 hs hok hl8 he he' h2 h3 e1 e2 e2' hp hL ho hrd hhp hLc hcs hxs hT1 hT2 hT3 hrest hcur hgl hgb
 go_enter Try.func31, Try.ntmps31
 go_wp2_with fail
 go_at_call 50
 have HDEL : Hid _ := (qGX 47 #[.pointer (some ⟨w.heap.size, 0, none⟩)] (fun _ _ => rfl) w1 (fun b => b < wK.heap.size) gb L cap T rest s.2.1 HR1.out HGb.out.2 HTl.out HLen.out HLc.out hL8 (fun j h1 h2 => by
  obtain ⟨g1, g2, g3, g4, g5⟩ := HTe.out j h1 h2
  exact ⟨g1, g2, rSectors.weaken (Rep.below g3 BK.out) (fun b hb _ => hb.2.1), g4, g5⟩) HCp.out (fun y => decide (y.1 = id)) p hpL HIdx.out HNo.out
  (fun w2 k2 y _ u => isIt_u w2 w.heap.size 5 at' N id nm _ (HXR.out.keep (k2.block _ (by have := HGb.out; show _ ∧ w.heap.size ≠ gb; (have h8 := HB.out; have h9 := HZ.out; unfold Hid at h8 h9; omega)))) y u))
 refine Calls.mono HDEL.out ?_
 rintro e w6 ⟨rest', rfl, R6, k6⟩
 have HR6 : Hid _ := R6
 have K6 : Hid _ := k6
 have V6 : Hid (Row w6 bs 31 [.slice (some ⟨g, 0, none⟩) n n, .slice (some ⟨gb, 0, none⟩) L cap, .int .i64 s.2.2]) := HBx.out.keep (k6.block bs (by have := HGb.out; (have h8 := HB.out; have h9 := HZ.out; unfold Hid at h8 h9; omega)))
 have HD6 : Hid (DiskR w6 (fun b => g + 1 ≤ b ∧ b < wK.heap.size ∧ b ≠ gb) g vs s.1) := (HDo.out.below BK.out).keep (fun b hb hl => k6.block b ⟨hl, hb.2.2⟩) (k6.block g (by have := HGb.out; (have h8 := HB.out; have h9 := HZ.out; unfold Hid at h8 h9; omega)))
 have z1 := V6.out.frozen 1
 have y6 := V6.out.cell (j := 1) rfl
 obtain ⟨w7, hw7⟩ : ∃ w7, w6.setCell ⟨bs, 1, none⟩ (.slice (some ⟨gb, 0, none⟩) (L - 1) cap) = w7 := ⟨_, rfl⟩
 have V7 : Hid (Row w7 bs 31 [.slice (some ⟨g, 0, none⟩) n n, .slice (some ⟨gb, 0, none⟩) (L - 1) cap, .int .i64 s.2.2]) := by rw [← hw7]; exact V6.out.set 1 _
 have K7 : Hid (Kept (· ≠ bs) w6 w7) := by rw [← hw7]; exact (Kept.refl _ w6).setCell (p := ⟨bs, 1, none⟩) (fun h => h rfl) _
 have HRR7 : Hid (Row w7 w0.heap.size 38 [.int .i64 0, .slice none 0 0, .int .i64 0, .slice none 0 0, .int .i64 0]) := (HRR.out.keep (k6.block w0.heap.size (by have := HGb.out; (have h8 := HB.out; have h9 := HZ.out; unfold Hid at h8 h9; omega)))).keep (K7.out.block w0.heap.size (by show w0.heap.size ≠ bs; (have h8 := HB.out; have h9 := HZ.out; unfold Hid at h8 h9; omega)))
 have r0 := HRR7.out.cell (j := 0) rfl
 have r1 := HRR7.out.cell (j := 1) rfl
 have r2 := HRR7.out.cell (j := 2) rfl
 have r3 := HRR7.out.cell (j := 3) rfl
 have r4 := HRR7.out.cell (j := 4) rfl
 have f0 := HRR7.out.frozen 0
 have f1 := HRR7.out.frozen 1
 have f2 := HRR7.out.frozen 2
 have f3 := HRR7.out.frozen 3
 have f4 := HRR7.out.frozen 4
 obtain ⟨w9, hw9, V9, K9⟩ := HRR7.out.whole5 (.int .i64 0) (.slice none 0 0) (.int .i64 0) (.slice none 0 0) (.int .i64 0)
 have HV9 : Hid _ := V9
 have HK9 : Hid _ := K9
 clear V9 K9 R6 k6 y1
 go_wp2
 have hk79 : Kept (fun b => b ≠ bs ∧ b ≠ w0.heap.size) w6 w9 := (K7.out.mono (fun b hb => hb.1)).trans (HK9.out.mono (fun b hb => hb.2))
 have hk19 : Kept (fun b => b < w1.heap.size ∧ b ≠ gb ∧ b ≠ bs ∧ b ≠ w0.heap.size) w1 w9 := (K6.out.mono (fun b hb => ⟨hb.1, hb.2.1⟩)).trans (hk79.mono (fun b hb => hb.2.2))
 refine bodyPost_ret (q1q rfl rfl HV9.out Try.underlying38 rfl (by kernel_rfl)) rfl ⟨_, none, 0, 0, none, 0, 0, bs, by rfl, V7.out.keep (HK9.out.block bs (by show bs ≠ w0.heap.size; (have h8 := HB.out; have h9 := HZ.out; unfold Hid at h8 h9; omega))), ?_, by rw [HChD.out]; exact q2x _ _, by rw [HChL.out]; exact q0Z _ _, .inl rfl, ?_, ?_⟩
 · rw [HChS.out]
   refine q2Q (s := (s.1, s.2.1.eraseIdx p, s.2.2)) (rSectors.weaken (Rep.kept (DiskR.rd (P := fun b => g ≤ b ∧ b < wK.heap.size) (HD6.out.weaken (fun b hb _ => ⟨by omega, hb.2.1⟩)) ⟨Nat.le_refl _, HB.out.1⟩ HD.out (by omega)) hk79 (fun b hb _ => ?_)) (fun b hb _ => ?_)) (rSnps.weaken (snps_of (P := fun b => g + 1 ≤ b ∧ b < wK.heap.size) (rest := rest') (T := T.eraseIdx p) (HR6.out.keep (hk79.block gb (by have := HGb.out; (have h8 := HB.out; have h9 := HZ.out; unfold Hid at h8 h9; omega)))) HGb.out ?_ ?_ ?_ ?_ ?_) (fun b hb _ => ?_)) HNX.out
   · (have h1 := HB.out; have h2 := HZ.out; unfold Hid at h1 h2; (try dsimp only at hb ⊢); omega)
   · (have h1 := HB.out; have h2 := HZ.out; unfold Hid at h1 h2; (try dsimp only at hb ⊢); omega)
   · rw [List.length_eraseIdx_of_lt (by have := HTl.out; have := HLen.out; unfold Hid at *; omega), List.length_eraseIdx_of_lt (by have := HLen.out; unfold Hid at *; omega)]; have := HTl.out; unfold Hid at this; omega
   · rw [List.length_eraseIdx_of_lt (by have := HLen.out; unfold Hid at *; omega)]; have := HLen.out; unfold Hid at *; omega
   · have := HLc.out; unfold Hid at *; omega
   · omega
   · intro j h1 h2
     have hTL := HTl.out
     have hLL := HLen.out
     unfold Hid at hTL hLL
     have hT0 : (T.eraseIdx p).length = L - 1 := by rw [List.length_eraseIdx_of_lt (by omega)]; omega
     rw [List.getElem_eraseIdx, List.getElem_eraseIdx]
     have hk := fun (u : Value) (d : Dsk) (h : rSectors.rd wK (fun b => g + 1 ≤ b ∧ b < wK.heap.size ∧ b ≠ gb) [u] d) => rSectors.weaken (P' := fun b => g + 1 ≤ b ∧ b < wK.heap.size) (Rep.kept (Rep.below h BK.out) hk19 (fun b hb hl => ⟨hl, hb.2.2, by have := hb.2.1; (have h8 := HB.out; have h9 := HZ.out; unfold Hid at h8 h9; omega), by have := hb.2.1; (have h8 := HB.out; have h9 := HZ.out; unfold Hid at h8 h9; omega)⟩)) (fun b hb _ => ⟨hb.1, hb.2.1⟩)
     split
     · obtain ⟨g1, g2, g3, g4, g5⟩ := HTe.out j (by omega) (by omega)
       exact ⟨g1, g2, hk _ _ g3, g4, g5⟩
     · obtain ⟨g1, g2, g3, g4, g5⟩ := HTe.out (j + 1) (by omega) (by omega)
       exact ⟨g1, g2, hk _ _ g3, g4, g5⟩
   · (have h1 := HB.out; have h2 := HZ.out; unfold Hid at h1 h2; (try dsimp only at hb ⊢); omega)
 · exact Nat.lt_of_lt_of_le V7.out.lt HK9.out.size
 · exact ((Kept.below B1.out).mono (fun b hb => hb.1)).trans (hk19.mono (fun b hb => ⟨Nat.lt_of_lt_of_le hb.1 B1.out.size, by have := HGb.out; have := hb.2.2; (have h8 := HB.out; have h9 := HZ.out; unfold Hid at h8 h9; omega), hb.2.1, by have := hb.1; (have h8 := HB.out; have h9 := HZ.out; unfold Hid at h8 h9; omega)⟩))
set_option maxRecDepth 20000 in
theorem done7_u (wK w : World) (P : Nat → Prop) (bs g n : Nat) (vs : List Value) (v : Value) (s : Sta) (H : StAt wK w bs g n vs v s) (hok : Mo.ok s = true) (at' N id : Int) (nm : ByteArray) (dt : List UInt8) (xa : Option Addr) (xn xc : Nat) (hX : rBytes.rd w P [.slice xa xn xc] dt) (h2 : I64 at') (h3 : I64 N) (h4 : I64 id) (hs : nm.size ≤ maxLen) (he : Mo.opE s (7, at', N, id, nm, dt) = 0) :
 Calls Try.prog 31 #[.pointer (some ⟨bs, 0, none⟩), .agg #[.int .i64 7, .int .i64 at', .int .i64 N, .int .i64 id, .string nm, .slice xa xn xc]] w (qJx wK w bs g (Mo.chgS s (7, at', N, id, nm, dt)) (Mo.chgD s (7, at', N, id, nm, dt)) (Mo.chgI s (7, at', N, id, nm, dt)) (Mo.chgL s (7, at', N, id, nm, dt))) := by
 have hF := (Mo.ok_iff s).1 hok
 have hl8 := hF.few
 have hnx : -9223372036854775808 ≤ s.2.2 ∧ s.2.2 ≤ 9223372036854775807 := by have := hF.low; have := hF.high; omega
 have hn : n ≤ 65536 := by have h1 := (Mo.okDisk_iff.1 hF.now).1; rw [H.len] at h1; exact h1
 obtain ⟨va, vc, hv, hsn⟩ := H.list hl8
 have hdk : DiskR wK (fun b => g + 1 ≤ b ∧ b < wK.heap.size) g vs s.1 := H.disk.weaken (fun b hb hl => ⟨hb.1, hl⟩)
 have hlenD := H.len
 have HChS : Hid (Mo.chgS s (7, at', N, id, nm, dt) = s) := by unfold Hid; rfl
 have HChI : Hid (Mo.chgI s (7, at', N, id, nm, dt) = 0) := by unfold Hid; rfl
 have HChL : Hid (Mo.chgL s (7, at', N, id, nm, dt) = Mo.named s.2.1) := by unfold Hid; rfl
 have HChD : Hid (Mo.chgD s (7, at', N, id, nm, dt) = []) := by unfold Hid; rfl
 subst hv
 obtain ⟨w0, hw0, V0, b0, z0⟩ := q0q w 33 [.int .i64 7, .int .i64 at', .int .i64 N, .int .i64 id, .string nm, .slice xa xn xc]
 obtain ⟨w1, hw1, V1, b1, z1⟩ := q0q w0 38 [.int .i64 0, .slice none 0 0, .int .i64 0, .slice none 0 0, .int .i64 0]
 have B1 : Hid (Below w.heap.size w w1) := on b0 b1
 have HXR : Hid (Row w1 w.heap.size 33 [.int .i64 7, .int .i64 at', .int .i64 N, .int .i64 id, .string nm, .slice xa xn xc]) := V0.below b1
 have HRR : Hid _ := V1
 have HZ : Hid (w0.heap.size = w.heap.size + 1 ∧ w1.heap.size = w.heap.size + 2) := ⟨z0, by omega⟩
 have HBx : Hid (Row w1 bs 31 [.slice (some ⟨g, 0, none⟩) n n, .slice va s.2.1.length vc, .int .i64 s.2.2]) := H.box.below B1.out
 have HB : Hid (g < wK.heap.size ∧ wK.heap.size ≤ bs ∧ bs < w.heap.size ∧ wK.heap.size ≤ w.heap.size) := ⟨H.hg, H.hb, H.box.lt, H.bel.size⟩
 have BK : Hid (Below wK.heap.size wK w1) := H.bel.trans (B1.out.mono H.bel.size)
 have HDK : Hid _ := hdk
 have HSN : Hid _ := hsn
 have HD : Hid (s.1.length = n) := hlenD
 have HXd : Hid (rBytes.rd w1 (fun b => b < w.heap.size) [.slice xa xn xc] dt) := Rep.below (rBytes.weaken hX (fun b _ hl => hl)) B1.out
 have HNX : Hid _ := hnx
 have HL8 : Hid _ := hl8
 have HOwn : Hid _ := H.snaps
 have HFine : Hid _ := hF
 have x0 := HXR.out.cell (j := 0) rfl
 have HSn1 : Hid (rSnps.rd w1 (fun b => g + 1 ≤ b ∧ b < wK.heap.size) [.slice va s.2.1.length vc] s.2.1) := Rep.below HSN.out BK.out
 have y1 := HBx.out.cell (j := 1) rfl
 clear H hdk hsn hlenD hX hnx hF V0 V1 b0 b1 z0 z1 h4 hs hok hl8 he h2 h3
 go_enter Try.func31, Try.ntmps31
 go_wp2_with fail
 go_at_call 30
 refine Calls.mono (named_u w1 _ va _ vc s.2.1 HSn1.out (by have := HL8.out; omega)) ?_
 rintro e w7 ⟨lb, ld, rfl, hr7, b7⟩
 have B7 : Hid _ := b7
 have HL7 : Hid (rNmds.rd w7 (fun b => w1.heap.size ≤ b) [.slice lb s.2.1.length ld] (Mo.named s.2.1)) := hr7
 have V7 : Hid _ := HBx.out.below b7
 have HD7 : Hid (DiskR w7 (fun b => g + 1 ≤ b ∧ b < wK.heap.size) g vs s.1) := (HDK.out.below BK.out).below b7
 have HRR7 : Hid _ := HRR.out.below b7
 have r0 := HRR7.out.cell (j := 0) rfl
 have r1 := HRR7.out.cell (j := 1) rfl
 have r2 := HRR7.out.cell (j := 2) rfl
 have r3 := HRR7.out.cell (j := 3) rfl
 have r4 := HRR7.out.cell (j := 4) rfl
 have f0 := HRR7.out.frozen 0
 have f1 := HRR7.out.frozen 1
 have f2 := HRR7.out.frozen 2
 have f3 := HRR7.out.frozen 3
 have f4 := HRR7.out.frozen 4
 obtain ⟨w9, hw9, V9, K9⟩ := HRR7.out.whole5 (.int .i64 0) (.slice none 0 0) (.int .i64 0) (.slice lb s.2.1.length ld) (.int .i64 0)
 have HV9 : Hid _ := V9
 have HK9 : Hid _ := K9
 clear V9 K9 hr7 b7 y1
 go_wp2
 refine bodyPost_ret (q1q rfl rfl HV9.out Try.underlying38 rfl (by kernel_rfl)) rfl ⟨_, none, 0, 0, lb, s.2.1.length, ld, bs, by rfl, V7.out.keep (HK9.out.block bs (by show bs ≠ w0.heap.size; (have h8 := HB.out; have h9 := HZ.out; unfold Hid at h8 h9; omega))), ?_, by rw [HChD.out]; exact q2x _ _, ?_, .inl rfl, ?_, ?_⟩
 · rw [HChS.out]
   refine q2Q (rSectors.weaken (Rep.kept (DiskR.rd (P := fun b => g ≤ b ∧ b < wK.heap.size) (HD7.out.weaken (fun b hb _ => ⟨by omega, hb.2⟩)) ⟨Nat.le_refl _, HB.out.1⟩ HD.out (by omega)) HK9.out (fun b hb _ => ?_)) (fun b hb _ => ?_)) (rSnps.weaken (Rep.kept (Rep.below HSn1.out B7.out) HK9.out (fun b hb _ => ?_)) (fun b hb _ => ?_)) HNX.out
   all_goals (have h1 := HB.out; have h2 := HZ.out; unfold Hid at h1 h2; (try dsimp only at hb ⊢); omega)
 · rw [HChL.out]
   refine rNmds.weaken (Rep.kept HL7.out HK9.out (fun b hb _ => ?_)) (fun b hb _ => ?_)
   all_goals (have h1 := HB.out; have h2 := HZ.out; unfold Hid at h1 h2; (try dsimp only at hb ⊢); omega)
 · exact Nat.lt_of_lt_of_le V7.out.lt HK9.out.size
 · exact ((Kept.below (on B1.out B7.out)).mono (fun b hb => hb.1)).trans (HK9.out.mono (fun b hb => by have := HZ.out; unfold Hid at this; have := hb.1; omega))
set_option maxRecDepth 20000 in
theorem done8_u (wK w : World) (P : Nat → Prop) (bs g n : Nat) (vs : List Value) (v : Value) (s : Sta) (H : StAt wK w bs g n vs v s) (hok : Mo.ok s = true) (at' N id : Int) (nm : ByteArray) (dt : List UInt8) (xa : Option Addr) (xn xc : Nat) (hX : rBytes.rd w P [.slice xa xn xc] dt) (h2 : I64 at') (h3 : I64 N) (h4 : I64 id) (hs : nm.size ≤ maxLen) (he : Mo.opE s (8, at', N, id, nm, dt) = 0) :
 Calls Try.prog 31 #[.pointer (some ⟨bs, 0, none⟩), .agg #[.int .i64 8, .int .i64 at', .int .i64 N, .int .i64 id, .string nm, .slice xa xn xc]] w (qJx wK w bs g (Mo.chgS s (8, at', N, id, nm, dt)) (Mo.chgD s (8, at', N, id, nm, dt)) (Mo.chgI s (8, at', N, id, nm, dt)) (Mo.chgL s (8, at', N, id, nm, dt))) := by
 have hF := (Mo.ok_iff s).1 hok
 have hl8 := hF.few
 have hnx : -9223372036854775808 ≤ s.2.2 ∧ s.2.2 ≤ 9223372036854775807 := by have := hF.low; have := hF.high; omega
 have hn : n ≤ 65536 := by have h1 := (Mo.okDisk_iff.1 hF.now).1; rw [H.len] at h1; exact h1
 obtain ⟨va, vc, hv, hsn⟩ := H.list hl8
 have hdk : DiskR wK (fun b => g + 1 ≤ b ∧ b < wK.heap.size) g vs s.1 := H.disk.weaken (fun b hb hl => ⟨hb.1, hl⟩)
 have hlenD := H.len
 have he' : (if 0 ≤ N ∧ N ≤ 65536 then (0 : Int) else 4) = 0 := he
 have hN : 0 ≤ N ∧ N ≤ 65536 := by
  by_cases h : 0 ≤ N ∧ N ≤ 65536
  · exact h
  · rw [if_neg h] at he'; cases he'
 obtain ⟨Kn, rfl⟩ : ∃ Kn : Nat, N = (Kn : Int) := ⟨N.toNat, by omega⟩
 have hK6 : Kn ≤ 65536 := by omega
 have HChS : Hid (Mo.chgS s (8, at', (Kn : Int), id, nm, dt) = (Mo.sized s.1 Kn, s.2.1, s.2.2)) := by unfold Hid; rfl
 have HChI : Hid (Mo.chgI s (8, at', (Kn : Int), id, nm, dt) = 0) := by unfold Hid; rfl
 have HChL : Hid (Mo.chgL s (8, at', (Kn : Int), id, nm, dt) = []) := by unfold Hid; rfl
 have HChD : Hid (Mo.chgD s (8, at', (Kn : Int), id, nm, dt) = []) := by unfold Hid; rfl
 obtain ⟨w0, hw0, V0, b0, z0⟩ := q0q w 33 [.int .i64 8, .int .i64 at', .int .i64 (Kn : Int), .int .i64 id, .string nm, .slice xa xn xc]
 obtain ⟨w1, hw1, V1, b1, z1⟩ := q0q w0 38 [.int .i64 0, .slice none 0 0, .int .i64 0, .slice none 0 0, .int .i64 0]
 have B1 : Hid (Below w.heap.size w w1) := on b0 b1
 have HXR : Hid (Row w1 w.heap.size 33 [.int .i64 8, .int .i64 at', .int .i64 (Kn : Int), .int .i64 id, .string nm, .slice xa xn xc]) := V0.below b1
 have HRR : Hid _ := V1
 have HZ : Hid (w0.heap.size = w.heap.size + 1 ∧ w1.heap.size = w.heap.size + 2) := ⟨z0, by omega⟩
 have HBx : Hid (Row w1 bs 31 [.slice (some ⟨g, 0, none⟩) n n, v, .int .i64 s.2.2]) := H.box.below B1.out
 have HB : Hid (g < wK.heap.size ∧ wK.heap.size ≤ bs ∧ bs < w.heap.size ∧ wK.heap.size ≤ w.heap.size) := ⟨H.hg, H.hb, H.box.lt, H.bel.size⟩
 have BK : Hid (Below wK.heap.size wK w1) := H.bel.trans (B1.out.mono H.bel.size)
 have HDK : Hid _ := hdk
 have HSN : Hid _ := hsn
 have HV : Hid _ := hv
 have HD : Hid (s.1.length = n) := hlenD
 have HXd : Hid (rBytes.rd w1 (fun b => b < w.heap.size) [.slice xa xn xc] dt) := Rep.below (rBytes.weaken hX (fun b _ hl => hl)) B1.out
 have HNX : Hid _ := hnx
 have HL8 : Hid _ := hl8
 have HOwn : Hid _ := H.snaps
 have HFine : Hid _ := hF
 have x0 := HXR.out.cell (j := 0) rfl
 have x2 := HXR.out.cell (j := 2) rfl
 have y0 := HBx.out.cell (j := 0) rfl
 have z0' := HBx.out.frozen 0
 have hge : ¬ ((Kn : Int) < 0) := by omega
 clear H hdk hsn hv hlenD hX hnx hF V0 V1 b0 b1 z0 z1 h4 hs hok hl8 he he' hN h2 h3
 go_enter Try.func31, Try.ntmps31
 go_wp2_with first
  | (at_make; go_loud (refine qBq _ rfl _ _ 22 rfl 26 (.slice none 0 0) 24 Try.underlying22 qCz rfl Kn _ rfl rfl rfl (by omega) (by omega) ?_; intro w5 HR5 b5 z5; have V5 := HBx.out.below b5; have y5 := V5.cell (j := 0) rfl; have z0' := V5.frozen 0; obtain ⟨w6, hw6⟩ : ∃ w6, w5.setCell ⟨bs, 0, none⟩ (.slice (some ⟨w1.heap.size, 0, none⟩) Kn Kn) = w6 := ⟨_, rfl⟩; have V6 : Hid (Row w6 bs 31 [.slice (some ⟨w1.heap.size, 0, none⟩) Kn Kn, v, .int .i64 s.2.2]) := (by rw [← hw6]; exact V5.set 0 _); have y6 := V6.out.cell (j := 0) rfl))
 have B5 : Hid _ := b5
 have K6 : Hid (Kept (· ≠ bs) w5 w6) := by rw [← hw6]; exact (Kept.refl _ w5).setCell (p := ⟨bs, 0, none⟩) (fun h => h rfl) _
 have hz5 : w5.heap.size = w1.heap.size + 1 := z5
 have HD6 : Hid (DiskR w6 (fun b => g + 1 ≤ b ∧ b < wK.heap.size) g vs s.1) := ((HDK.out.below BK.out).below B5.out).keep (fun b hb _ => K6.out.block b (by show b ≠ bs; (have h8 := HB.out; have h9 := HZ.out; unfold Hid at h8 h9; omega))) (K6.out.block g (by show g ≠ bs; (have h8 := HB.out; have h9 := HZ.out; unfold Hid at h8 h9; omega)))
 have HG6 : Hid (Row w6 w1.heap.size 26 (List.replicate Kn (.slice none 0 0))) := HR5.out.keep (K6.out.block _ (by show w1.heap.size ≠ bs; (have h8 := HB.out; have h9 := HZ.out; unfold Hid at h8 h9; omega)))
 obtain ⟨w7, hr7, R7, k7, z7⟩ := qJq (Pr := Try.prog) w6 22 22 3 26 Try.underlying22 (by kernel_rfl) (some ⟨w1.heap.size, 0, none⟩) (some ⟨g, 0, none⟩) Kn Kn n n w1.heap.size 0 _ 26 HG6.out (vs.take Kn)
  (by rw [List.length_take, HD6.out.len, HD.out]; exact Nat.min_comm _ _)
  (fun _ => ⟨rfl, ⟨g, 0, none⟩, rfl, fun j u hj => by
   rw [Addr.add_lit, Nat.zero_add]
   rw [List.getElem?_take] at hj
   split at hj
   · exact HD6.out.row.cell hj
   · cases hj⟩)
  (by rw [List.length_take, List.length_replicate]; omega)
  (fun u hu => by
   obtain ⟨j, hj, rfl⟩ := List.mem_iff_getElem.1 (List.mem_of_mem_take hu)
   exact rBytes.one (HD6.out.each j _ _ (List.getElem?_eq_getElem hj) (List.getElem?_eq_getElem (by rw [← HD6.out.len]; exact hj))) _ (by simp))
 have HRun : Hid _ := hr7
 have HR7 : Hid _ := R7
 have K7 : Hid _ := k7
 have HD7 : Hid (DiskR w7 (fun b => g + 1 ≤ b ∧ b < wK.heap.size) w1.heap.size (splice (List.replicate Kn (.slice none 0 0)) 0 (vs.take Kn)) (Mo.sized s.1 Kn)) := HD6.out.sized HR7.out (fun b hb _ => K7.out.block b (by show b ≠ w1.heap.size; (have h8 := HB.out; have h9 := HZ.out; unfold Hid at h8 h9; omega)))
 have V7 : Hid (Row w7 bs 31 [.slice (some ⟨w1.heap.size, 0, none⟩) Kn Kn, v, .int .i64 s.2.2]) := V6.out.keep (K7.out.block bs (by show bs ≠ w1.heap.size; (have h8 := HB.out; have h9 := HZ.out; unfold Hid at h8 h9; omega)))
 have HSn7 : Hid (rSnps.rd w7 (fun b => g + 1 ≤ b ∧ b < wK.heap.size) [v] s.2.1) := rSnps.keep HSN.out (fun b hb hl => (K7.out.block b (by show b ≠ w1.heap.size; (have h8 := HB.out; have h9 := HZ.out; unfold Hid at h8 h9; omega))).trans ((K6.out.block b (by show b ≠ bs; (have h8 := HB.out; have h9 := HZ.out; unfold Hid at h8 h9; omega))).trans ((on BK.out B5.out).block b hl)))
 have HRR7 : Hid (Row w7 w0.heap.size 38 [.int .i64 0, .slice none 0 0, .int .i64 0, .slice none 0 0, .int .i64 0]) := ((HRR.out.below B5.out).keep (K6.out.block _ (by show w0.heap.size ≠ bs; (have h8 := HB.out; have h9 := HZ.out; unfold Hid at h8 h9; omega)))).keep (K7.out.block _ (by show w0.heap.size ≠ w1.heap.size; (have h8 := HB.out; have h9 := HZ.out; unfold Hid at h8 h9; omega)))
 clear hr7 R7 k7 z7 HR5 b5 z5 hz5 V5 y5 z0' y6
 rw [HRun.out]
 have r0 := HRR7.out.cell (j := 0) rfl
 have r1 := HRR7.out.cell (j := 1) rfl
 have r2 := HRR7.out.cell (j := 2) rfl
 have r3 := HRR7.out.cell (j := 3) rfl
 have r4 := HRR7.out.cell (j := 4) rfl
 have f0 := HRR7.out.frozen 0
 have f1 := HRR7.out.frozen 1
 have f2 := HRR7.out.frozen 2
 have f3 := HRR7.out.frozen 3
 have f4 := HRR7.out.frozen 4
 obtain ⟨w9, hw9, V9, K9⟩ := HRR7.out.whole5 (.int .i64 0) (.slice none 0 0) (.int .i64 0) (.slice none 0 0) (.int .i64 0)
 have HV9 : Hid _ := V9
 have HK9 : Hid _ := K9
 clear V9 K9
 go_wp2
 refine bodyPost_ret (q1q rfl rfl HV9.out Try.underlying38 rfl (by kernel_rfl)) rfl ⟨_, none, 0, 0, none, 0, 0, bs, by rfl, V7.out.keep (HK9.out.block bs (by show bs ≠ w0.heap.size; (have h8 := HB.out; have h9 := HZ.out; unfold Hid at h8 h9; omega))), ?_, by rw [HChD.out]; exact q2x _ _, by rw [HChL.out]; exact q0Z _ _, .inl rfl, ?_, ?_⟩
 · rw [HChS.out]
   refine q2Q (s := (Mo.sized s.1 Kn, s.2.1, s.2.2)) (rSectors.weaken (Rep.kept (DiskR.rd (P := fun b => (g + 1 ≤ b ∧ b < wK.heap.size) ∨ b = w1.heap.size) (HD7.out.weaken (fun b hb _ => .inl hb)) (.inr rfl) (Mo.sized_len _ _) (by omega)) HK9.out (fun b hb _ => ?_)) (fun b hb _ => ?_)) (rSnps.weaken (Rep.kept HSn7.out HK9.out (fun b hb _ => ?_)) (fun b hb _ => ?_)) HNX.out
   all_goals (have h1 := HB.out; have h2 := HZ.out; unfold Hid at h1 h2; (try dsimp only at hb ⊢); omega)
 · exact Nat.lt_of_lt_of_le V7.out.lt HK9.out.size
 · exact ((Kept.below (on B1.out B5.out)).mono (fun b hb => hb.1)).trans ((K6.out.mono (fun b hb => hb.2.1)).trans ((K7.out.mono (fun b hb => by have := HZ.out; unfold Hid at this; have := hb.1; omega)).trans (HK9.out.mono (fun b hb => by have := HZ.out; unfold Hid at this; have := hb.1; omega))))
theorem may_kind {size next : Int} {l : List Nmd} {k at' N id : Int} {nm : ByteArray} {dt : List UInt8} (h : Mo.mayE size l next (k, at', N, id, nm, dt) = 0) : k = 1 ∨ k = 2 ∨ k = 3 ∨ k = 4 ∨ k = 5 ∨ k = 6 ∨ k = 7 ∨ k = 8 := by
 by_cases h1 : k = 1
 · exact .inl h1
 by_cases h2 : k = 2
 · exact .inr (.inl h2)
 by_cases h3 : k = 3
 · exact .inr (.inr (.inl h3))
 by_cases h4 : k = 4
 · exact .inr (.inr (.inr (.inl h4)))
 by_cases h5 : k = 5
 · exact .inr (.inr (.inr (.inr (.inl h5))))
 by_cases h6 : k = 6
 · exact .inr (.inr (.inr (.inr (.inr (.inl h6)))))
 by_cases h7 : k = 7
 · exact .inr (.inr (.inr (.inr (.inr (.inr (.inl h7))))))
 by_cases h8 : k = 8
 · exact .inr (.inr (.inr (.inr (.inr (.inr (.inr h8))))))
 exfalso
 unfold Mo.mayE at h
 have e : Mo.what (k, at', N, id, nm, dt) = k := rfl
 rw [e, if_neg h1, if_neg (by omega), if_neg h4, if_neg (by omega), if_neg h7, if_neg h8] at h
 cases h
theorem done_u (wK w : World) (P : Nat → Prop) (bs g n : Nat) (vs : List Value) (v : Value) (s : Sta) (H : StAt wK w bs g n vs v s) (hok : Mo.ok s = true) (k at' N id : Int) (nm : ByteArray) (dt : List UInt8) (xa : Option Addr) (xn xc : Nat) (hX : rBytes.rd w P [.slice xa xn xc] dt) (h2 : I64 at') (h3 : I64 N) (h4 : I64 id) (hs : nm.size ≤ maxLen) (he : Mo.opE s (k, at', N, id, nm, dt) = 0) :
 Calls Try.prog 31 #[.pointer (some ⟨bs, 0, none⟩), .agg #[.int .i64 k, .int .i64 at', .int .i64 N, .int .i64 id, .string nm, .slice xa xn xc]] w (qJx wK w bs g (Mo.chgS s (k, at', N, id, nm, dt)) (Mo.chgD s (k, at', N, id, nm, dt)) (Mo.chgI s (k, at', N, id, nm, dt)) (Mo.chgL s (k, at', N, id, nm, dt))) := by
 rcases may_kind he with rfl | rfl | rfl | rfl | rfl | rfl | rfl | rfl
 · exact done1_u wK w P bs g n vs v s H hok at' N id nm dt xa xn xc hX h2 h3 h4 hs he
 · exact done2_u wK w P bs g n vs v s H hok at' N id nm dt xa xn xc hX h2 h3 h4 hs he
 · exact done3_u wK w P bs g n vs v s H hok at' N id nm dt xa xn xc hX h2 h3 h4 hs he
 · exact done4_u wK w P bs g n vs v s H hok at' N id nm dt xa xn xc hX h2 h3 h4 hs he
 · exact done5_u wK w P bs g n vs v s H hok at' N id nm dt xa xn xc hX h2 h3 h4 hs he
 · exact done6_u wK w P bs g n vs v s H hok at' N id nm dt xa xn xc hX h2 h3 h4 hs he
 · exact done7_u wK w P bs g n vs v s H hok at' N id nm dt xa xn xc hX h2 h3 h4 hs he
 · exact done8_u wK w P bs g n vs v s H hok at' N id nm dt xa xn xc hX h2 h3 h4 hs he
theorem q0x {Pr : Program} {fn : Func} {p q : Tmp} {ty t ty2 t2 : TypeId} {tmps : Array Value} {w : World} {b b2 : Nat} {xs ys : List Value} {d d2 : TypeDesc} (h : fn.results = #[.cell p ty, .cell q ty2]) (hp : tmps.getD p undef = .pointer (some ⟨b, 0, none⟩)) (hq : tmps.getD q undef = .pointer (some ⟨b2, 0, none⟩))
 (V : Row w b t xs) (V2 : Row w b2 t2 ys) (hu : Pr.underlying ty = some d) (hd : d.isRow = true) (hi : (Pr.info? ty).map (·.size) = some xs.length) (hu2 : Pr.underlying ty2 = some d2) (hd2 : d2.isRow = true) (hi2 : (Pr.info? ty2).map (·.size) = some ys.length) : (results fn tmps).run Pr w = .ok (.tuple #[.agg xs.toArray, .agg ys.toArray]) w := by
 have hp' : tmps[p]?.getD undef = .pointer (some ⟨b, 0, none⟩) := by simpa using hp
 have hq' : tmps[q]?.getD undef = .pointer (some ⟨b2, 0, none⟩) := by simpa using hq
 simp [results, h, hp', hq', asAddr, run_loadVar_mid w b 0 ty xs d V.range hu hd hi, run_loadVar_mid w b2 0 ty2 ys d2 V2.range hu2 hd2 hi2]
def RplAt (w : World) (B db : Nat) (rs : List Value) (r : Rpl) : Prop :=
 ∃ (da : Option Addr) (dn dc : Nat) (la : Option Addr) (ln lc : Nat), rs = [.int .i64 r.1, .slice da dn dc, .int .i64 r.2.2.1, .slice la ln lc, .int .i64 r.2.2.2.2] ∧ rFree.rd w (fun b => b = db) [.slice da dn dc] r.2.1 ∧ rNmds.rd w (fun b => B ≤ b) [.slice la ln lc] r.2.2.2.1
end Go.Proofs.Ytoophkmnppoppaa
namespace Go.Proofs.Ytoophkmnppoppaa
set_option maxHeartbeats 16000000
set_option linter.unusedVariables false
namespace Mo
theorem do_done {s : Sta} {x : Opn} (h1 : ok s = true) (h2 : opE s x = 0) : doS s x = chgS s x ∧ doR s x = (0, chgD s x, chgI s x, chgL s x, ((chgS s x).1.length : Int)) := by
 unfold doS doR
 rw [if_pos h1, if_pos h1, if_pos h2, if_pos h2]
 exact ⟨rfl, rfl⟩
end Mo
end Go.Proofs.Ytoophkmnppoppaa
