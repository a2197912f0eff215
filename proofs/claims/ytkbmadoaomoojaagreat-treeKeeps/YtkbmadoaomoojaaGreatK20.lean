/-
  Facts that the proof rests on, part 21. Conditions: those that each of them names.
-/
import Derived.BigQuiet
import Derived.Deep.QuietTactic
import Derived.Test.YtkbmadoaomoojaaGreatK09
import Derived.Test.YtkbmadoaomoojaaGreatK14
import Derived.Test.YtkbmadoaomoojaaGreatK19
namespace Go.Proofs.YtkbmadoaomoojaaGreat
set_option maxRecDepth 20000
open Go.RowKit
set_option linter.unusedVariables false
theorem page_at {s : Pgs} {q : Nat} (h : q < s.length) : s[q] = Tr.page s ((q : Int) + 1) := by
 unfold Tr.page
 rw [show ((q : Int) + 1).toNat - 1 = q by omega]
 simp [List.getD, List.getElem?_eq_getElem h]
theorem nodeT_in (w : World) (P : Nat → Prop) (pa : Option Addr) (pc : Nat) (s : Pgs) (hR : rSectors.rd w P [.slice pa s.length pc] s) (q : Nat) (hq : q < s.length) :
 Calls Tryz.prog 75 #[.slice pa s.length pc, .int .i64 ((q : Int) + 1)] w fun e w' => Below w.heap.size w w' ∧
  (Lf.decodeE (Tr.page s ((q : Int) + 1)) = 0 → ∃ ia il ic ka kl kc, e = .returned (.agg #[.slice ia il ic, .slice ka kl kc]) ∧ OwnI 45 w' w.heap.size (.slice ia il ic) (Tr.nod s ((q : Int) + 1)).1 ∧ OwnK 3 w' w.heap.size (.slice ka kl kc) (Tr.nod s ((q : Int) + 1)).2) ∧
  (Lf.decodeE (Tr.page s ((q : Int) + 1)) ≠ 0 → e = broke 9) := by
 have hsl := rSectors_len hR
 have HR : Hid _ := hR
 obtain ⟨w0, hw0, V0, b0, z0⟩ := boxedRow w 63 [.slice none 0 0, .slice none 0 0]
 obtain ⟨pb, off, rfl, -, -, hat⟩ := rLists_at (Rep.below hR b0) (by omega)
 obtain ⟨x, m, d, hpg, hml, cp⟩ := hat q hq
 rw [page_at hq] at hpg
 obtain ⟨hpB, hpc, hpn, hpm⟩ := rBytes_isB hpg
 have HPB : Hid (IsB w0 x m (Tr.page s ((q : Int) + 1))) := hpB
 have HPc : Hid _ := hpc
 have HPn : Hid _ := hpn
 have HPm : Hid _ := hpm
 have HV0 : Hid _ := V0
 have B0 : Hid _ := b0
 have hqz : (q : Int) < (s.length : Int) := by omega
 have hq1 : (q : Int) + 1 ≥ 1 := by omega
 have hq2 : (q : Int) + 1 ≤ (s.length : Int) := by omega
 have hsz : s.length ≤ 5864062014634 := by omega
 clear hat hpg hml hpB hpc hpn hpm V0 b0 z0 hR hsl
 go_enter Tryz.func75, Tryz.ntmps75
 go_wp2_with (go_at_call 64; refine (must_yes _).mono ?_; rintro e w' ⟨rfl, rfl⟩)
 go_at_call 100
 refine (decode_u _ x m d (Tr.page s ((q : Int) + 1)) HPm.out HPc.out HPn.out HPB.out).mono ?_
 rintro e w2 ⟨v, u, rfl, hoI, hoK, b2⟩
 obtain ⟨ia, il, ic, rfl⟩ : ∃ a n c, v = .slice a n c := by obtain ⟨a, c, e, -⟩ := hoI.slice; exact ⟨a, _, c, e⟩
 obtain ⟨ka, kl, kc, rfl⟩ : ∃ a n c, u = .slice a n c := by obtain ⟨a, c, e, -⟩ := hoK.slice; exact ⟨a, _, c, e⟩
 obtain ⟨w3, hw3, V3, b3, z3⟩ := boxedRow w2 63 [.slice ia il ic, .slice ka kl kc]
 obtain ⟨y0, y1⟩ := V3.two
 have R0 : Hid (Row w3 w.heap.size 63 [.slice none 0 0, .slice none 0 0]) := (HV0.out.below (on b2 b3))
 have B3 : Hid (Below w.heap.size w w3) := on B0.out (on b2 b3)
 have HI : Hid (OwnI 45 w3 w.heap.size (.slice ia il ic) (Tr.nod s ((q : Int) + 1)).1) := (hoI.below b3).mono B0.out.size
 have HK : Hid (OwnK 3 w3 w.heap.size (.slice ka kl kc) (Tr.nod s ((q : Int) + 1)).2) := (hoK.below b3).mono B0.out.size
 obtain ⟨c0, c1⟩ := R0.out.two
 have f0 := R0.out.frozen 0
 have f1 := R0.out.frozen 1
 have HLI : Hid (∀ b, (Value.slice ia il ic).ownBlock = some b → b ≠ w.heap.size) := fun b hb e => by have := (hoI.row.lt b hb).1; have := B0.out.size; have := HV0.out.lt; omega
 have HLK : Hid (∀ b, (Value.slice ka kl kc).ownBlock = some b → b ≠ w.heap.size) := fun b hb e => by have := (hoK.row.lt b hb).1; have := B0.out.size; have := HV0.out.lt; omega
 clear hoI hoK b2 b3 V3 z3
 cases hE : decide (Lf.decodeE (Tr.page s ((q : Int) + 1)) = 0)
 · have hEz : (Lf.decodeE (Tr.page s ((q : Int) + 1)) == 0) = false := by simpa using hE
   have hE1 : Lf.decodeE (Tr.page s ((q : Int) + 1)) ≠ 0 := by simpa using hE
   have HE : Hid (Lf.decodeE (Tr.page s ((q : Int) + 1)) ≠ 0) := hE1
   clear hE1
   clear hE
   go_wp2_with (go_at_call 64; refine (must_no _).mono ?_; rintro e w' ⟨rfl, rfl⟩)
   refine ⟨rfl, B3.out, fun h => absurd h HE.out, fun _ => rfl⟩
 · have hEz : (Lf.decodeE (Tr.page s ((q : Int) + 1)) == 0) = true := by simpa using hE
   have hE1 : Lf.decodeE (Tr.page s ((q : Int) + 1)) = 0 := by simpa using hE
   have HE : Hid (Lf.decodeE (Tr.page s ((q : Int) + 1)) = 0) := hE1
   clear hE hE1
   rw [HE.out]
   clear hEz
   go_wp2_with (go_at_call 64; refine (must_yes _).mono ?_; rintro e w' ⟨rfl, rfl⟩)
   exact st_ret1 R0.out B3.out (Nat.le_refl _) _ _ rfl rfl Tryz.underlying63 rfl (by kernel_rfl) (fun w' k' b' => ⟨b', fun _ => ⟨ia, il, ic, ka, kl, kc, rfl, HI.out.keep1 (fun b hb => k'.block b (HLI.out b hb)), HK.out.keep1 (fun b hb => k'.block b (HLK.out b hb))⟩, fun h => absurd HE.out h⟩)
theorem nodeT_out (w : World) (pa : Option Addr) (n pc : Nat) (p : Int) (hn : n ≤ 5864062014634) (h0 : -9223372036854775808 ≤ p) (h1 : p ≤ 9223372036854775807) (hp : ¬ (1 ≤ p ∧ p ≤ n)) :
 Calls Tryz.prog 75 #[.slice pa n pc, .int .i64 p] w fun e w' => Below w.heap.size w w' ∧ e = broke 9 := by
 obtain ⟨w0, hw0, V0, b0, z0⟩ := boxedRow w 63 [.slice none 0 0, .slice none 0 0]
 have B0 : Hid _ := b0
 clear V0 b0 z0
 by_cases h2 : p ≥ 1
 · have h3 : ¬ p ≤ (n : Int) := by omega
   clear hp
   go_enter Tryz.func75, Tryz.ntmps75
   go_wp2_with (go_at_call 64; refine (must_no _).mono ?_; rintro e w' ⟨rfl, rfl⟩)
   exact ⟨rfl, B0.out, rfl⟩
 · clear hp
   go_enter Tryz.func75, Tryz.ntmps75
   go_wp2_with (go_at_call 64; refine (must_no _).mono ?_; rintro e w' ⟨rfl, rfl⟩)
   exact ⟨rfl, B0.out, rfl⟩
def IsNode (w : World) (base : Nat) (v : Value) (n : Nod) : Prop :=
 ∃ ia il ic ka kl kc, v = .agg #[.slice ia il ic, .slice ka kl kc] ∧ rItms.rd w (fun b => base ≤ b) [.slice ia il ic] n.1 ∧ rKids.rd w (fun b => base ≤ b) [.slice ka kl kc] n.2
theorem IsNode.turn {S : List Nat} {w w' : World} {base : Nat} {v : Value} {n : Nod} (h : IsNode w base v n) (k : Turn S w w') (hS : ∀ b ∈ S, b < base) : IsNode w' base v n := by
 obtain ⟨ia, il, ic, ka, kl, kc, e, h1, h2⟩ := h
 exact ⟨ia, il, ic, ka, kl, kc, e, k.rep h1 (fun b hb _ hm => by have := hS b hm; omega), k.rep h2 (fun b hb _ hm => by have := hS b hm; omega)⟩
structure LWalks (w : World) (g gm : Nat) (P : Nat → Prop) (pa : Option Addr) (pc : Nat) (base : Nat) (s : Pgs) (k : Tr.Lw) (es : List (Int × Value)) : Prop where
 row : Row w g 70 [.slice pa s.length pc, .map (some gm), .int .i64 (k.leaf : Int)]
 pages : rSectors.rd w P [.slice pa s.length pc] s
 met : IsMet w gm es
 keys : es.map Prod.fst = k.met
 nodes : ∀ z ∈ es, IsNode w base z.2 (Tr.nod s z.1)
 nodup : k.met.Nodup
structure LApart (P : Nat → Prop) (g gm base : Nat) : Prop where
 pg : ¬ P g
 pgm : ¬ P gm
 ne : g ≠ gm
 gb : g < base
 gmb : gm < base
theorem LWalks.three {w : World} {g gm : Nat} {P : Nat → Prop} {pa : Option Addr} {pc base : Nat} {s : Pgs} {k : Tr.Lw} {es : List (Int × Value)} (h : LWalks w g gm P pa pc base s k es) :
 w.cell? ⟨g, 0, none⟩ = some (.slice pa s.length pc) ∧ w.cell? ⟨g, 1, none⟩ = some (.map (some gm)) ∧ w.cell? ⟨g, 2, none⟩ = some (.int .i64 (k.leaf : Int)) :=
 ⟨h.row.cell rfl, h.row.cell rfl, h.row.cell rfl⟩
theorem LWalks.turn {S : List Nat} {w w' : World} {g gm : Nat} {P : Nat → Prop} {pa : Option Addr} {pc base : Nat} {s : Pgs} {k : Tr.Lw} {es : List (Int × Value)} (h : LWalks w g gm P pa pc base s k es) (t : Turn S w w')
 (hg : g ∉ S) (hgm : gm ∉ S) (hP : ∀ b, P b → b ∉ S) (hb : ∀ b ∈ S, b < base) : LWalks w' g gm P pa pc base s k es :=
 ⟨t.row h.row hg, t.rep h.pages (fun b hb _ => hP b hb), h.met.turn t hgm, h.keys, fun z hz => (h.nodes z hz).turn t hb, h.nodup⟩
theorem LWalks.below {w w' : World} {g gm : Nat} {P : Nat → Prop} {pa : Option Addr} {pc base : Nat} {s : Pgs} {k : Tr.Lw} {es : List (Int × Value)} (h : LWalks w g gm P pa pc base s k es) (b : Below w.heap.size w w') : LWalks w' g gm P pa pc base s k es :=
 h.turn (S := []) (Turn.of b) (by simp) (by simp) (by simp) (by simp)
theorem LWalks.put {w w' : World} {g gm : Nat} {P : Nat → Prop} {pa : Option Addr} {pc base : Nat} {s : Pgs} {k : Tr.Lw} {es : List (Int × Value)} (h : LWalks w g gm P pa pc base s k es) (a : LApart P g gm base) {p : Int} {v : Value}
 (hm : IsMet w' gm (es ++ [(p, v)])) (t : Turn [gm] w w') (hp : p ∉ k.met) (hv : IsNode w' base v (Tr.nod s p)) : LWalks w' g gm P pa pc base s ⟨k.met ++ [p], k.leaf⟩ (es ++ [(p, v)]) := by
 refine ⟨t.row h.row (by simp [a.ne]), t.rep h.pages (fun b hb _ e => a.pgm (by simp at e; exact e ▸ hb)), hm, by simp [h.keys], fun z hz => ?_, ?_⟩
 · have hb : ∀ b ∈ [gm], b < base := fun b hb => by simp at hb; rw [hb]; exact a.gmb
   rcases List.mem_append.1 hz with hz | hz
   · exact (h.nodes z hz).turn t hb
   · rw [List.mem_singleton.1 hz]
     exact hv
 · exact List.nodup_append.2 ⟨h.nodup, by simp, fun x hx y hy e => hp (by simp at hy; rw [← hy, ← e]; exact hx)⟩
theorem LWalks.setLeaf {w : World} {g gm : Nat} {P : Nat → Prop} {pa : Option Addr} {pc base : Nat} {s : Pgs} {k : Tr.Lw} {es : List (Int × Value)} (h : LWalks w g gm P pa pc base s k es) (a : LApart P g gm base) (x : Nat) :
 LWalks (w.setCell ⟨g, 2, none⟩ (.int .i64 (x : Int))) g gm P pa pc base s ⟨k.met, x⟩ es := by
 have t : Turn [g] w (w.setCell ⟨g, 2, none⟩ (.int .i64 (x : Int))) := (Turn.refl [g] w).set (p := ⟨g, 2, none⟩) (.inr (by simp)) _
 exact ⟨h.row.set 2 _, t.rep h.pages (fun b hb _ e => a.pg (by simp at e; exact e ▸ hb)), h.met.turn t (by simp; exact fun e => a.ne e.symm), h.keys, fun z hz => (h.nodes z hz).turn t (fun b hb => by simp at hb; rw [hb]; exact a.gb), h.nodup⟩
def MeetDone (s : Pgs) (g gm : Nat) (P : Nat → Prop) (pa : Option Addr) (pc base : Nat) (k : Tr.Lw) (es : List (Int × Value)) (p : Int) (w : World) (e : Ending) (w' : World) : Prop :=
 ∃ ia il ic ka kl kc, e = .returned (.agg #[.slice ia il ic, .slice ka kl kc]) ∧ LWalks w' g gm P pa pc base s ⟨k.met ++ [p], k.leaf⟩ (es ++ [(p, .agg #[.slice ia il ic, .slice ka kl kc])]) ∧ Turn [gm] w w' ∧
   rItms.rd w' (fun b => w.heap.size ≤ b) [.slice ia il ic] (Tr.nod s p).1 ∧ rKids.rd w' (fun b => w.heap.size ≤ b) [.slice ka kl kc] (Tr.nod s p).2
theorem MeetDone.of {s : Pgs} {g gm : Nat} {P : Nat → Prop} {pa : Option Addr} {pc base : Nat} {k : Tr.Lw} {es : List (Int × Value)} {p : Int} {w : World} {e : Ending} {w' : World}
 (h : ∃ ia il ic ka kl kc, e = .returned (.agg #[.slice ia il ic, .slice ka kl kc]) ∧ LWalks w' g gm P pa pc base s ⟨k.met ++ [p], k.leaf⟩ (es ++ [(p, .agg #[.slice ia il ic, .slice ka kl kc])]) ∧ Turn [gm] w w' ∧
  rItms.rd w' (fun b => w.heap.size ≤ b) [.slice ia il ic] (Tr.nod s p).1 ∧ rKids.rd w' (fun b => w.heap.size ≤ b) [.slice ka kl kc] (Tr.nod s p).2) : MeetDone s g gm P pa pc base k es p w e w' := h
set_option maxHeartbeats 4000000 in
theorem meet_shut (w : World) (s : Pgs) (g gm : Nat) (P : Nat → Prop) (pa : Option Addr) (pc base : Nat) (k : Tr.Lw) (es : List (Int × Value)) (p dp : Int) (hW : LWalks w g gm P pa pc base s k es) (h0 : -9223372036854775808 ≤ p) (h1 : p ≤ 9223372036854775807) (hx : p ∈ k.met ∨ 16 < dp) :
 Calls Tryz.prog 63 #[.pointer (some ⟨g, 0, none⟩), .int .i64 p, .int .i64 dp] w fun e w' => e = broke 9 ∧ Below w.heap.size w w' := by
 obtain ⟨w0, hw0, V0, b0, z0⟩ := boxedRow w 63 [.slice none 0 0, .slice none 0 0]
 have W0 := hW.below b0
 obtain ⟨c0, c1, c2⟩ := W0.three
 have B0 : Hid _ := b0
 have HX : Hid _ := hx
 by_cases hm : p ∈ k.met
 · rw [← W0.keys] at hm
   obtain ⟨⟨p', v⟩, hz, e⟩ := List.mem_map.1 hm
   simp only at e
   subst e
   obtain ⟨ia, il, ic, ka, kl, kc, rfl, -, -⟩ := W0.nodes _ hz
   have hl := look_yes W0.met hz (by rw [W0.keys]; exact W0.nodup) true
   simp only [if_true] at hl
   obtain ⟨w1, hw1, V1, b1, z1⟩ := boxedRow w0 63 [.slice ia il ic, .slice ka kl kc]
   have B1 : Hid _ := on B0.out b1
   clear hm hz W0 V0 V1 b0 b1 z0 z1 hx hW
   go_enter Tryz.func63, Tryz.ntmps63
   go_wp2_with (go_at_call 64; refine (must_no _).mono ?_; rintro e w' ⟨rfl, rfl⟩)
   exact ⟨rfl, rfl, B1.out⟩
 · have hd : ¬ dp ≤ 16 := by rcases hx with h | h; exact absurd h hm; omega
   have hl := look_no W0.met (p := p) (fun z hz e => hm (by rw [← W0.keys, ← e]; exact List.mem_map_of_mem hz)) true
   simp only [if_true, noNode] at hl
   clear hm W0 V0 b0 z0 hx hW
   go_enter Tryz.func63, Tryz.ntmps63
   go_wp2_with fail
   obtain ⟨w1, hw1, V1, b1, z1⟩ := boxedRow w0 63 [.slice none 0 0, .slice none 0 0]
   rw [hw1]
   have B1 : Hid _ := on B0.out b1
   clear V1 b1 z1
   go_at_call 64
   refine (must_no _).mono ?_
   rintro e w' ⟨rfl, rfl⟩
   go_wp2_with fail
   exact ⟨rfl, rfl, B1.out⟩
set_option maxHeartbeats 8000000 in
theorem meet_in (w : World) (s : Pgs) (g gm : Nat) (P : Nat → Prop) (pa : Option Addr) (pc base : Nat) (k : Tr.Lw) (es : List (Int × Value)) (p dp : Int) (hW : LWalks w g gm P pa pc base s k es) (hA : LApart P g gm base) (hb : base ≤ w.heap.size) (h0 : -9223372036854775808 ≤ p) (h1 : p ≤ 9223372036854775807) (hm : p ∉ k.met) (hd : dp ≤ 16) :
 Calls Tryz.prog 63 #[.pointer (some ⟨g, 0, none⟩), .int .i64 p, .int .i64 dp] w fun e w' =>
  ((1 ≤ p ∧ p ≤ s.length ∧ Lf.decodeE (Tr.page s p) = 0) → MeetDone s g gm P pa pc base k es p w e w') ∧ (¬ (1 ≤ p ∧ p ≤ s.length ∧ Lf.decodeE (Tr.page s p) = 0) → e = broke 9 ∧ Below w.heap.size w w') := by
 obtain ⟨w0, hw0, V0, b0, z0⟩ := boxedRow w 63 [.slice none 0 0, .slice none 0 0]
 have W0 := hW.below b0
 obtain ⟨c0, c1, c2⟩ := W0.three
 have B0 : Hid _ := b0
 have A : Hid _ := hA
 have HB : Hid _ := hb
 have HM : Hid (p ∉ k.met) := hm
 have HW : Hid _ := hW
 have hl := look_no W0.met (p := p) (fun z hz e => hm (by rw [← W0.keys, ← e]; exact List.mem_map_of_mem hz)) true
 simp only [if_true, noNode] at hl
 have HW0 : Hid _ := W0
 have HV0 : Hid _ := V0
 have hsl : s.length ≤ 5864062014634 := (rSectors_len hW.pages).2
 clear hm V0 b0 z0 hW hA hb W0
 go_enter Tryz.func63, Tryz.ntmps63
 go_wp2_with fail
 obtain ⟨w1, hw1, V1, b1, z1⟩ := boxedRow w0 63 [.slice none 0 0, .slice none 0 0]
 rw [hw1]
 have B1 : Hid _ := on B0.out b1
 have W1 : Hid _ := HW0.out.below b1
 have R1 : Hid _ := HV0.out.below b1
 obtain ⟨d0, d1, d2⟩ := W1.out.three
 clear V1 b1 z1 hw1 hl c0 c1 c2
 go_at_call 64
 refine (must_yes _).mono ?_
 rintro e w1 ⟨rfl, rfl⟩
 by_cases hp : 1 ≤ p ∧ p ≤ s.length
 · obtain ⟨q, hq⟩ := Int.eq_ofNat_of_zero_le (show 0 ≤ p - 1 by omega)
   obtain rfl : p = (q : Int) + 1 := by omega
   have hql : q < s.length := by omega
   have HQL : Hid _ := hql
   clear hq
   go_wp2_with fail
   go_at_call 75
   refine (nodeT_in _ P pa pc s W1.out.pages q HQL.out).mono ?_
   rintro e w2 ⟨b2, hy, hn⟩
   by_cases hE : Lf.decodeE (Tr.page s ((q : Int) + 1)) = 0
   · obtain ⟨ia, il, ic, ka, kl, kc, rfl, hoI, hoK⟩ := hy hE
     clear hy hn
     obtain ⟨w3, hw3, V3, b3, z3⟩ := boxedRow w2 63 [.slice ia il ic, .slice ka kl kc]
     have W3 : Hid (LWalks w3 g gm P pa pc base s k es) := W1.out.below (on b2 b3)
     have R3 : Hid (Row w3 w.heap.size 63 [.slice none 0 0, .slice none 0 0]) := R1.out.below (on b2 b3)
     have B3 : Hid (Below w.heap.size w w3) := on B1.out (on b2 b3)
     have X3 : Hid _ := V3
     have HI3 : Hid (rItms.rd w3 (fun b => w1.heap.size ≤ b) [.slice ia il ic] (Tr.nod s ((q : Int) + 1)).1) := (hoI.below b3).rd (by have := Lf.decodeN_len (Tr.page s ((q : Int) + 1)); show (Lf.decodeN _).1.length ≤ _; omega)
     have HK3 : Hid (rKids.rd w3 (fun b => w1.heap.size ≤ b) [.slice ka kl kc] (Tr.nod s ((q : Int) + 1)).2) := (hoK.below b3).rd (by have := Lf.decodeN_len (Tr.page s ((q : Int) + 1)); show (Lf.decodeN _).2.length ≤ _; omega)
     have HZ : Hid (w.heap.size < w1.heap.size) := R1.out.lt
     obtain ⟨e0, e1, e2⟩ := W3.out.three
     obtain ⟨x0, x1⟩ := X3.out.two
     obtain ⟨w4, hr4, hm4, k4, z4⟩ := store_new (w := w3.drew) (b := gm) (l := es) ⟨W3.out.met.eq⟩ (p := (q : Int) + 1) (fun z hz e => HM.out (by rw [← W3.out.keys, ← e]; exact List.mem_map_of_mem hz)) (.agg #[.slice ia il ic, .slice ka kl kc])
     have k34 : Kept (· ≠ gm) w3 w4 := ⟨k4.os, k4.tape, k4.output, k4.size, k4.block⟩
     have M4 : Hid _ := hm4
     have hgm : gm < w.heap.size := by have := A.out.gmb; have := HB.out; omega
     have R4 : Hid (Row w4 w.heap.size 63 [.slice none 0 0, .slice none 0 0]) := R3.out.keep (k34.block _ (by show w.heap.size ≠ gm; omega))
     have X4 : Hid (Row w4 w2.heap.size 63 [.slice ia il ic, .slice ka kl kc]) := X3.out.keep (k34.block _ (by have := b2.size; have := HZ.out; show w2.heap.size ≠ gm; omega))
     have T4 : Hid (Turn [gm] w w4) := (Turn.of B3.out).trans (k34.mono (fun b hb e => hb.2 (by simp [e])))
     have HI4 : Hid (rItms.rd w4 (fun b => w1.heap.size ≤ b) [.slice ia il ic] (Tr.nod s ((q : Int) + 1)).1) := Rep.kept HI3.out k34 (fun b hb _ => by have := HZ.out; show b ≠ gm; omega)
     have HK4 : Hid (rKids.rd w4 (fun b => w1.heap.size ≤ b) [.slice ka kl kc] (Tr.nod s ((q : Int) + 1)).2) := Rep.kept HK3.out k34 (fun b hb _ => by have := HZ.out; show b ≠ gm; omega)
     obtain ⟨y0, y1⟩ := X4.out.two
     obtain ⟨u0, u1⟩ := R4.out.two
     have g0 := R4.out.frozen 0
     have g1 := R4.out.frozen 1
     clear hoI hoK b2 b3 V3 z3 hm4 k4 z4 k34
     go_wp2_with fail
     go_region
     go_wp2
     obtain ⟨w5, hw5, R5, K5⟩ := R4.out.whole2 (.slice ia il ic) (.slice ka kl kc)
     rw [hw5]
     have T5 : Turn [gm] w w5 := by rw [← hw5]; exact (T4.out.set (p := ⟨w.heap.size, 0, none⟩) (.inl (Nat.le_refl _)) _).set (p := ⟨w.heap.size, 1, none⟩) (.inl (Nat.le_refl _)) _
     have I5 : rItms.rd w5 (fun b => w1.heap.size ≤ b) [.slice ia il ic] (Tr.nod s ((q : Int) + 1)).1 := Rep.kept HI4.out K5 (fun b hb _ => by have := HZ.out; show b ≠ w.heap.size; omega)
     have J5 : rKids.rd w5 (fun b => w1.heap.size ≤ b) [.slice ka kl kc] (Tr.nod s ((q : Int) + 1)).2 := Rep.kept HK4.out K5 (fun b hb _ => by have := HZ.out; show b ≠ w.heap.size; omega)
     have N5 : IsNode w5 base (.agg #[.slice ia il ic, .slice ka kl kc]) (Tr.nod s ((q : Int) + 1)) := ⟨ia, il, ic, ka, kl, kc, rfl, rItms.weaken I5 (fun b hb _ => by have := HB.out; have := HZ.out; omega), rKids.weaken J5 (fun b hb _ => by have := HB.out; have := HZ.out; omega)⟩
     have M5 := M4.out.keep (K5.block gm (by show gm ≠ w.heap.size; omega))
     refine bodyPost_ret (results_row (p := 6) rfl rfl R5 Tryz.underlying63 rfl (by kernel_rfl)) rfl ⟨fun _ => MeetDone.of ⟨ia, il, ic, ka, kl, kc, rfl, HW.out.put A.out M5 T5 HM.out N5, T5, ?_, ?_⟩, fun h => absurd ⟨hp.1, hp.2, hE⟩ h⟩
     · exact rItms.weaken I5 (fun b hb _ => by have := HZ.out; omega)
     · exact rKids.weaken J5 (fun b hb _ => by have := HZ.out; omega)
   · have e9 := hn hE
     subst e9
     have B2 : Hid _ := on B1.out b2
     clear hy hn b2
     go_wp2_with fail
     exact ⟨rfl, fun h => absurd h.2.2 hE, fun _ => ⟨rfl, B2.out⟩⟩
 · have HP : Hid _ := hp
   clear hp
   go_wp2_with fail
   go_at_call 75
   refine (nodeT_out _ pa s.length pc p hsl h0 h1 HP.out).mono ?_
   rintro e w2 ⟨b2, rfl⟩
   have B2 : Hid _ := on B1.out b2
   clear b2
   go_wp2_with fail
   exact ⟨rfl, fun h => absurd ⟨h.1, h.2.1⟩ HP.out, fun _ => ⟨rfl, B2.out⟩⟩
namespace Tr
theorem lkids_stop {g : Int → Lw → Option (Lw × UInt64 × UInt64)} {n : Nod} {w : Lw} {j : Nat} (h : lkids g n j w = none) : ∀ i, lkids g n (j + i) w = none
 | 0 => h
 | i + 1 => by
   show lkids g n ((j + i) + 1) w = none
   unfold lkids
   rw [lkids_stop h i]
   rfl
theorem lkids_all {g : Int → Lw → Option (Lw × UInt64 × UInt64)} {n : Nod} {w : Lw} {j m : Nat} (h : lkids g n j w = none) (hj : j ≤ m) : lkids g n m w = none := by
 have := lkids_stop h (m - j)
 rwa [show j + (m - j) = m by omega] at this
theorem lkids_next {g : Int → Lw → Option (Lw × UInt64 × UInt64)} {n : Nod} {w k : Lw} {j : Nat} {a b : UInt64} (h : lkids g n j w = some (k, a, b)) (hj : j < n.2.length) :
 lkids g n (j + 1) w = (g n.2[j] k).bind fun t => if fits n j t.2.1 t.2.2 = true then some (t.1, if j = 0 then t.2.1 else a, t.2.2) else none := by
 conv => lhs; unfold lkids
 rw [h, Option.bind_some, getD_kid hj]
theorem keyF_at {l : List Itm} (h : 0 < l.length) : l[0].1 = keyF l := by
 unfold keyF
 rw [List.head?_eq_getElem?, List.getElem?_eq_getElem h]
 rfl
theorem keyL_at {l : List Itm} {n : Nat} (hn : l.length = n) (h : n - 1 < l.length) : l[n - 1].1 = keyL l := by
 subst hn
 unfold keyL
 rw [List.getLast?_eq_getElem?, List.getElem?_eq_getElem h]
 rfl
end Tr
def LDone (s : Pgs) (f : Nat) (g gm : Nat) (P : Nat → Prop) (pa : Option Addr) (pc base : Nat) (k : Tr.Lw) (p : Int) (w : World) (e : Ending) (w' : World) : Prop :=
 Turn [g, gm] w w' ∧ (Tr.lwalk s f p k = none → e = broke 9) ∧
 ∀ k' a b, Tr.lwalk s f p k = some (k', a, b) → e = .returned (.tuple #[.int .u64 (a.toNat : Int), .int .u64 (b.toNat : Int)]) ∧ ∃ es', LWalks w' g gm P pa pc base s k' es'
theorem LDone.no {s : Pgs} {f : Nat} {g gm : Nat} {P : Nat → Prop} {pa : Option Addr} {pc base : Nat} {k : Tr.Lw} {p : Int} {w : World} {w' : World} (t : Turn [g, gm] w w') (h : Tr.lwalk s f p k = none) : LDone s f g gm P pa pc base k p w (broke 9) w' :=
 ⟨t, fun _ => rfl, fun k' a b h' => by rw [h] at h'; cases h'⟩
theorem LDone.yes {s : Pgs} {f : Nat} {g gm : Nat} {P : Nat → Prop} {pa : Option Addr} {pc base : Nat} {k k' : Tr.Lw} {a b : UInt64} {p : Int} {w : World} {e : Ending} {w' : World} {es' : List (Int × Value)} (t : Turn [g, gm] w w') (h : Tr.lwalk s f p k = some (k', a, b))
 (he : e = .returned (.tuple #[.int .u64 (a.toNat : Int), .int .u64 (b.toNat : Int)])) (hW : LWalks w' g gm P pa pc base s k' es') : LDone s f g gm P pa pc base k p w e w' :=
 ⟨t, (fun h' => by rw [h] at h'; cases h'), (fun k2 a2 b2 h' => by rw [h] at h'; cases h'; exact ⟨he, es', hW⟩)⟩
def LSaid (s : Pgs) (f : Nat) : Prop := ∀ (w : World) (g gm : Nat) (P : Nat → Prop) (pa : Option Addr) (pc base : Nat) (k : Tr.Lw) (es : List (Int × Value)) (p dp : Int),
 dp = 17 - (f : Int) → LApart P g gm base → LWalks w g gm P pa pc base s k es → base ≤ w.heap.size → -9223372036854775808 ≤ p → p ≤ 9223372036854775807 →
 Calls Tryz.prog 45 #[.pointer (some ⟨g, 0, none⟩), .int .i64 p, .int .i64 dp] w fun e w' => LDone s f g gm P pa pc base k p w e w'
theorem turn2 {g gm : Nat} {w w' : World} (h : Turn [gm] w w') : Turn [g, gm] w w' := h.mono (fun b hb _ => by simp at hb; simp [hb])
theorem walk_shut (s : Pgs) (f : Nat) (w : World) (g gm : Nat) (P : Nat → Prop) (pa : Option Addr) (pc base : Nat) (k : Tr.Lw) (es : List (Int × Value)) (p dp : Int) (hdp : dp = 17 - (f : Int)) (hW : LWalks w g gm P pa pc base s k es) (h0 : -9223372036854775808 ≤ p) (h1 : p ≤ 9223372036854775807) (hx : p ∈ k.met ∨ 16 < dp) :
 Calls Tryz.prog 45 #[.pointer (some ⟨g, 0, none⟩), .int .i64 p, .int .i64 dp] w fun e w' => LDone s f g gm P pa pc base k p w e w' := by
 have HL : Hid (Tr.lwalk s f p k = none) := by
  cases f with
  | zero => rfl
  | succ f =>
    rcases hx with h | h
    · unfold Hid Tr.lwalk
      rw [if_neg (fun h' => (Tr.may_iff.1 h').1 h)]
    · omega
 have HW : Hid _ := hW
 have HX : Hid _ := hx
 clear hW hx hdp
 go_enter Tryz.func45, Tryz.ntmps45
 go_wp2_with (go_at_call 63; refine (meet_shut _ s g gm P pa pc base k es p dp HW.out h0 h1 HX.out).mono ?_; rintro e w1 ⟨rfl, b1⟩)
 exact ⟨rfl, LDone.no (Turn.of b1) HL.out⟩
theorem walk_none (s : Pgs) (f : Nat) (w : World) (g gm : Nat) (P : Nat → Prop) (pa : Option Addr) (pc base : Nat) (k : Tr.Lw) (es : List (Int × Value)) (p dp : Int) (hdp : dp = 17 - ((f + 1 : Nat) : Int)) (hA : LApart P g gm base) (hW : LWalks w g gm P pa pc base s k es) (hb : base ≤ w.heap.size) (h0 : -9223372036854775808 ≤ p) (h1 : p ≤ 9223372036854775807) (hm : p ∉ k.met)
 (hn : ¬ (1 ≤ p ∧ p ≤ s.length ∧ Lf.decodeE (Tr.page s p) = 0)) :
 Calls Tryz.prog 45 #[.pointer (some ⟨g, 0, none⟩), .int .i64 p, .int .i64 dp] w fun e w' => LDone s (f + 1) g gm P pa pc base k p w e w' := by
 have HL : Hid (Tr.lwalk s (f + 1) p k = none) := by
  unfold Hid Tr.lwalk
  rw [if_neg (fun h' => hn (Tr.may_iff.1 h').2)]
 have HW : Hid _ := hW
 have HA : Hid _ := hA
 have HN : Hid _ := hn
 have HM : Hid _ := hm
 have HB : Hid _ := hb
 have hd : dp ≤ 16 := by omega
 clear hW hn hdp hA hm hb
 go_enter Tryz.func45, Tryz.ntmps45
 go_wp2_with fail
 go_at_call 63
 refine (meet_in _ s g gm P pa pc base k es p dp HW.out HA.out HB.out h0 h1 HM.out hd).mono ?_
 rintro e w1 ⟨-, h2⟩
 obtain ⟨rfl, b1⟩ := h2 HN.out
 go_wp2_with fail
 exact ⟨rfl, LDone.no (Turn.of b1) HL.out⟩
set_option maxHeartbeats 8000000 in
theorem walk_leaf (s : Pgs) (f : Nat) (hf : f < 16) (w : World) (g gm : Nat) (P : Nat → Prop) (pa : Option Addr) (pc base : Nat) (k : Tr.Lw) (es : List (Int × Value)) (p dp : Int) (hdp : dp = 17 - ((f + 1 : Nat) : Int)) (hA : LApart P g gm base) (hW : LWalks w g gm P pa pc base s k es) (hb : base ≤ w.heap.size) (h0 : -9223372036854775808 ≤ p) (h1 : p ≤ 9223372036854775807) (hm : p ∉ k.met)
 (hn : 1 ≤ p ∧ p ≤ s.length ∧ Lf.decodeE (Tr.page s p) = 0) (hk : (Tr.nod s p).2 = []) :
 Calls Tryz.prog 45 #[.pointer (some ⟨g, 0, none⟩), .int .i64 p, .int .i64 dp] w fun e w' => LDone s (f + 1) g gm P pa pc base k p w e w' := by
 have HL : Hid (Tr.lwalk s (f + 1) p k = if k.leaf = 0 ∨ k.leaf = 16 - f then some (⟨k.met ++ [p], 16 - f⟩, Tr.keyF (Tr.nod s p).1, Tr.keyL (Tr.nod s p).1) else none) := by
  unfold Hid Tr.lwalk
  rw [if_pos (Tr.may_iff.2 ⟨hm, hn⟩), if_pos hk]
 have HOK : Hid (Lf.Ok (Tr.nod s p)) := Lf.ok_iff.1 (Lf.enc_decode hn.2.2).1
 have HW : Hid _ := hW
 have HA : Hid _ := hA
 have HN : Hid _ := hn
 have HM : Hid _ := hm
 have HB : Hid _ := hb
 have HKn : Hid _ := hk
 have hd : dp ≤ 16 := by omega
 obtain ⟨L, hL⟩ : ∃ L : Nat, L = 16 - f := ⟨_, rfl⟩
 obtain rfl : dp = (L : Int) := by omega
 have HLL : Hid (L = 16 - f) := hL
 have hLp : 1 ≤ L := by omega
 clear hW hn hdp hA hm hb hk hL hf
 go_enter Tryz.func45, Tryz.ntmps45
 go_wp2_with fail
 go_at_call 63
 refine (meet_in _ s g gm P pa pc base k es p (L : Int) HW.out HA.out HB.out h0 h1 HM.out hd).mono ?_
 rintro e w1 ⟨h2, -⟩
 obtain ⟨ia, il, ic, ka, kl, kc, rfl, W1, T1, I1, K1⟩ := h2 HN.out
 obtain ⟨w2, hw2, V2, b2, z2⟩ := boxedRow w1 63 [.slice ia il ic, .slice ka kl kc]
 have X2 : Hid _ := V2
 have HW2 : Hid (LWalks w2 g gm P pa pc base s ⟨k.met ++ [p], k.leaf⟩ (es ++ [(p, .agg #[.slice ia il ic, .slice ka kl kc])])) := W1.below b2
 have HT2 : Hid (Turn [g, gm] w w2) := (turn2 T1).on b2
 have HS1 : Hid (w.heap.size ≤ w1.heap.size) := T1.size
 have HI2 : Hid (rItms.rd w2 (fun b => w.heap.size ≤ b) [.slice ia il ic] (Tr.nod s p).1) := Rep.below I1 b2
 have HKl : Hid ((Tr.nod s p).2.length = kl) := (rList_len K1).1
 have HIl : Hid ((Tr.nod s p).1.length = il) := (rList_len I1).1
 obtain rfl : kl = 0 := by have h := HKl.out; rw [HKn.out] at h; exact h.symm
 obtain ⟨x0, x1⟩ := X2.out.two
 clear h2 W1 T1 I1 K1 V2 b2 z2
 go_wp2_with fail
 go_at_call 47
 refine (isLeafT_u _ _ _ _ _).mono ?_
 rintro e w3 ⟨rfl, b3⟩
 have X3 : Hid _ := X2.out.below b3
 have HW3 : Hid _ := HW2.out.below b3
 have HT3 : Hid (Turn [g, gm] w w3) := HT2.out.on b3
 have HI3 : Hid (rItms.rd w3 (fun b => w.heap.size ≤ b) [.slice ia il ic] (Tr.nod s p).1) := Rep.below HI2.out b3
 obtain ⟨c0, c1, c2⟩ := HW3.out.three
 have f2 := HW3.out.row.frozen 2
 obtain ⟨y0, y1⟩ := X3.out.two
 clear b3 x0 x1 hw2
 have hL16 : L ≤ 16 := by have := HLL.out; omega
 by_cases hlf : k.leaf = 0 ∨ k.leaf = L
 · have HEq : Hid (Tr.lwalk s (f + 1) p k = some (⟨k.met ++ [p], L⟩, Tr.keyF (Tr.nod s p).1, Tr.keyL (Tr.nod s p).1)) := by
    unfold Hid
    rw [HL.out, ← HLL.out, if_pos hlf]
   have W4 : Hid (LWalks (w3.setCell ⟨g, 2, none⟩ (.int .i64 (L : Int))) g gm P pa pc base s ⟨k.met ++ [p], L⟩ (es ++ [(p, .agg #[.slice ia il ic, .slice ka 0 kc])])) := HW3.out.setLeaf HA.out L
   have hgw : g < w.heap.size := by have := HA.out.gb; have := HB.out; omega
   have K4 : Hid (Kept (· ≠ g) w3 (w3.setCell ⟨g, 2, none⟩ (.int .i64 (L : Int)))) := (Kept.refl _ w3).setCell (p := ⟨g, 2, none⟩) (fun h => h rfl) _
   have X4 : Hid (Row (w3.setCell ⟨g, 2, none⟩ (.int .i64 (L : Int))) w1.heap.size 63 [.slice ia il ic, .slice ka 0 kc]) := X3.out.keep (K4.out.block _ (by have := HS1.out; show w1.heap.size ≠ g; omega))
   have I4 : Hid (rItms.rd (w3.setCell ⟨g, 2, none⟩ (.int .i64 (L : Int))) (fun b => w.heap.size ≤ b) [.slice ia il ic] (Tr.nod s p).1) := Rep.kept HI3.out K4.out (fun b hb _ => by show b ≠ g; omega)
   have T4 : Hid (Turn [g, gm] w (w3.setCell ⟨g, 2, none⟩ (.int .i64 (L : Int)))) := HT3.out.set (p := ⟨g, 2, none⟩) (.inr (by simp)) _
   obtain ⟨w4, hw4⟩ : ∃ w4, w3.setCell ⟨g, 2, none⟩ (.int .i64 (L : Int)) = w4 := ⟨_, rfl⟩
   rw [hw4] at W4 X4 I4 T4
   have hil1 : 1 ≤ il := by have h := HOK.out.some_; rw [HIl.out] at h; exact h
   have hil3 : il ≤ 3 := by have h := HOK.out.few; rw [HIl.out] at h; exact h
   obtain ⟨gi, offi, rfl, -, -, hat⟩ := rItms_at I4.out (by omega)
   obtain ⟨i0, -⟩ := hat 0 (by rw [HIl.out]; omega)
   obtain ⟨i1, -⟩ := hat (il - 1) (by rw [HIl.out]; omega)
   have hF := Tr.keyF_at (show 0 < (Tr.nod s p).1.length by rw [HIl.out]; omega)
   have hG := Tr.keyL_at HIl.out (show il - 1 < (Tr.nod s p).1.length by rw [HIl.out]; omega)
   rw [hF] at i0
   simp only [Nat.zero_mul, Nat.add_zero] at i0
   rw [hG] at i1
   obtain ⟨z0, z1⟩ := X4.out.two
   have k1z : ((il : Int) - 1).toNat = il - 1 := by omega
   have k2z : (0 : Int) ≤ (il : Int) - 1 := by omega
   have k3z : (il : Int) - 1 < (il : Int) := by omega
   have k4z : (0 : Int) < (il : Int) := by omega
   clear hat hF hG
   by_cases hl0 : k.leaf = 0
   · have c2n : w3.cell? ⟨g, 2, none⟩ = some (.int .i64 0) := by have h := c2; simp only [hl0] at h; exact h
     clear c2 hl0 hlf
     go_wp2_with (go_at_call 64; refine (must_yes _).mono ?_; rintro e w' ⟨rfl, rfl⟩)
     go_quiet (fail)
     go_wp2
     go_ret2
     exact LDone.yes (T4.out.on (same_drewN (Below.refl _ _) _)) HEq.out rfl (W4.out.below (same_drewN (Below.refl _ _) _))
   · have hl1 : k.leaf = L := by omega
     have c2n : w3.cell? ⟨g, 2, none⟩ = some (.int .i64 (L : Int)) := by have h := c2; simp only [hl1] at h; exact h
     have hLz : ((L : Int) == 0) = false := beq_eq_false_iff_ne.2 (by omega)
     clear c2 hl0 hlf hl1
     go_wp2_with (go_at_call 64; refine (must_yes _).mono ?_; rintro e w' ⟨rfl, rfl⟩)
     go_quiet (fail)
     go_wp2
     go_ret2
     exact LDone.yes (T4.out.on (same_drewN (Below.refl _ _) _)) HEq.out rfl (W4.out.below (same_drewN (Below.refl _ _) _))
 · have HEq : Hid (Tr.lwalk s (f + 1) p k = none) := by
    unfold Hid
    rw [HL.out, ← HLL.out, if_neg hlf]
   have hz1 : ((k.leaf : Int) == 0) = false := beq_eq_false_iff_ne.2 (by omega)
   have hz2 : ((k.leaf : Int) == (L : Int)) = false := beq_eq_false_iff_ne.2 (by omega)
   clear hlf
   go_wp2_with (go_at_call 64; refine (must_no _).mono ?_; rintro e w' ⟨rfl, rfl⟩)
   exact ⟨rfl, LDone.no HT3.out HEq.out⟩
end Go.Proofs.YtkbmadoaomoojaaGreat
