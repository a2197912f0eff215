/-
  Facts that the proof rests on, part 42. Conditions: those that each of them names.
-/
import Derived.Test.YtkbmadoaomoojaaGreatK30
import Derived.Test.YtkbmadoaomoojaaGreatK34
import Derived.Test.YtkbmadoaomoojaaGreatK37
import Derived.Test.YtkbmadoaomoojaaGreatK40
namespace Go.Proofs.YtkbmadoaomoojaaGreat
set_option maxRecDepth 20000
set_option linter.unusedVariables false
namespace Tr
open Lf
def Full (s : Pgs) : Prop := ∀ b ∈ s, b ≠ []
theorem Full.add {s : Pgs} {n : Nod} (h : Full s) (hl : s.length < 2048) (hn : ok n = true) : add s n = .ok (s ++ [enc n], (s.length : Int) + 1) := by
 have e : slot s = s.length := by
  unfold slot
  rw [List.findIdx?_eq_none_iff.2 (fun b hb => by have := h b hb; cases b with | nil => exact absurd rfl this | cons _ _ => rfl)]
  rfl
 unfold Tr.add
 rw [e, if_neg (by omega), if_pos hn]
 unfold putAt
 rw [if_neg (by omega)]
theorem Full.more {s : Pgs} {n : Nod} (h : Full s) (hn : ok n = true) : Full (s ++ [enc n]) := fun b hb => by
 rcases List.mem_append.1 hb with hb | hb
 · exact h b hb
 · obtain rfl := List.mem_singleton.1 hb
   exact enc_ne (Lf.ok_iff.1 hn)
theorem rootOf_one {s : Pgs} {l : List Itm} (h : Full s) (hl : s.length < 2048) (hn : ok (l, []) = true) (h0 : l ≠ []) (hg : groups 3 l = [l]) : rootOf 5 s (l, []) = .ok (s ++ [enc (l, [])], (s.length : Int) + 1) := by
 have e1 : lay s (l, []) = .ok (s ++ [enc (l, [])], [(keyF l, (s.length : Int) + 1)]) := by
  unfold lay
  simp only [hg, layG, leafOver, h.add hl hn, List.nil_append]
  rfl
 unfold rootOf
 rw [if_pos (.inl h0)]
 simp only [e1]
 unfold rootOf
 rw [if_neg (by simp)]
 rfl
theorem change_leaf {s : Pgs} {T : List Itm → List Itm} {key : UInt64} {root : Int} {l : List Itm} (h1 : 1 ≤ root) (h2 : root ≤ s.length) (hp : page s root = enc (l, [])) (hn : ok (l, []) = true) : changed T key s root 16 = rootOf 5 s (T l, []) := by
 have hd := decode_enc hn
 have e : nodeE s root = .ok (l, []) := by
  unfold nodeE nod
  rw [hp, hd.1, hd.2, if_pos ⟨h1, h2, rfl⟩]
 unfold changed turned
 rw [if_neg (by omega)]
 unfold change
 simp only [e]
 rfl
def it (k : UInt64) : Itm := (k, 0)
def l1 : List Itm := [it 1]
def l2 : List Itm := [it 1, it 2]
def l3 : List Itm := [it 1, it 2, it 3]
def la : List Itm := [it 1, it 2]
def lb : List Itm := [it 3, it 4]
def nt : Nod := ([it 3], [4, 5])
def s1 : Pgs := [enc (l1, [])]
def s2 : Pgs := s1 ++ [enc (l2, [])]
def s3 : Pgs := s2 ++ [enc (l3, [])]
def s4 : Pgs := s3 ++ [enc (la, [])] ++ [enc (lb, [])] ++ [enc nt]
theorem ok1 : ok (l1, []) = true := by decide
theorem ok2 : ok (l2, []) = true := by decide
theorem ok3 : ok (l3, []) = true := by decide
theorem oka : ok (la, []) = true := by decide
theorem okb : ok (lb, []) = true := by decide
theorem okt : ok nt = true := by decide
theorem full0 : Full [] := fun b hb => by cases hb
theorem full1 : Full s1 := full0.more ok1
theorem full2 : Full s2 := full1.more ok2
theorem full3 : Full s3 := full2.more ok3
theorem put1 : changed (putT (it 1)) 1 [] 0 16 = .ok (s1, 1) := by
 unfold changed turned
 rw [if_pos rfl]
 have e : putT (it 1) [] = l1 := by decide
 simp only [e]
 exact rootOf_one full0 (by decide) ok1 (by decide) (by decide)
theorem put2 : changed (putT (it 2)) 2 s1 1 16 = .ok (s2, 2) := by
 rw [change_leaf (l := l1) (by decide) (by decide) rfl ok1, show putT (it 2) l1 = l2 by decide]
 exact rootOf_one full1 (by decide) ok2 (by decide) (by decide)
theorem put3 : changed (putT (it 3)) 3 s2 2 16 = .ok (s3, 3) := by
 rw [change_leaf (l := l2) (by decide) (by decide) rfl ok2, show putT (it 3) l2 = l3 by decide]
 exact rootOf_one full2 (by decide) ok3 (by decide) (by decide)
theorem put4 : changed (putT (it 4)) 4 s3 3 16 = .ok (s4, 6) := by
 rw [change_leaf (l := l3) (by decide) (by decide) rfl ok3, show putT (it 4) l3 = la ++ lb by decide]
 have f4 : Full (s3 ++ [enc (la, [])]) := full3.more oka
 have f5 : Full (s3 ++ [enc (la, [])] ++ [enc (lb, [])]) := f4.more okb
 have hg : groups 3 (la ++ lb) = [la, lb] := by decide
 have e1 : lay s3 (la ++ lb, []) = .ok (s3 ++ [enc (la, [])] ++ [enc (lb, [])], [(1, 4), (3, 5)]) := by
  unfold lay
  simp only [hg, layG, leafOver, full3.add (by decide) oka, f4.add (by decide) okb, List.nil_append]
  rfl
 have hg2 : groups 4 ([(1, 4), (3, 5)] : List Brn) = [[(1, 4), (3, 5)]] := by decide
 have e2 : lay (s3 ++ [enc (la, [])] ++ [enc (lb, [])]) ([], [(1, 4), (3, 5)]) = .ok (s4, [(1, 6)]) := by
  unfold lay
  have e3 : over ([(1, 4), (3, 5)] : List Brn) = nt := by decide
  have hg0 : groups 3 ([] : List Itm) = [] := by decide
  simp only [hg0, layG, hg2, e3, f5.add (by decide) okt, List.nil_append]
  rfl
 unfold rootOf
 rw [if_pos (.inl (by decide))]
 simp only [e1]
 unfold rootOf
 rw [if_pos (.inr (by decide))]
 simp only [e2]
 unfold rootOf
 rw [if_neg (by simp)]
 rfl
theorem nod_s4 : nod s4 4 = (la, []) ∧ nod s4 5 = (lb, []) ∧ nod s4 6 = nt := ⟨(decode_enc oka).2, (decode_enc okb).2, (decode_enc okt).2⟩
theorem whole4 : Whole s4 6 2 := by
 obtain ⟨e4, e5, e6⟩ := nod_s4
 have g6 : good s4 6 none none = true := by
  unfold good
  rw [show page s4 6 = enc nt from rfl, (decode_enc okt).1, e6]
  decide
 have g4 : good s4 4 none (some 3) = true := by
  unfold good
  rw [show page s4 4 = enc (la, []) from rfl, (decode_enc oka).1, e4]
  decide
 have g5 : good s4 5 (some 3) none = true := by
  unfold good
  rw [show page s4 5 = enc (lb, []) from rfl, (decode_enc okb).1, e5]
  decide
 refine ⟨by decide, by decide, ?_, ?_⟩
 · unfold Fit
   rw [if_neg (by decide), e6]
   refine ⟨by decide, g6, by decide, fun i h => ?_⟩
   have hi : i = 0 ∨ i = 1 := by
    have : nt.2.length = 2 := rfl
    omega
   rcases hi with rfl | rfl
   · unfold Fit
     rw [if_pos rfl]
     refine ⟨show (1 : Int) ≤ 4 ∧ (4 : Int) ≤ s4.length by decide, g4, ?_⟩
     show (nod s4 4).2 = []
     rw [e4]
   · unfold Fit
     rw [if_pos rfl]
     refine ⟨show (1 : Int) ≤ 5 ∧ (5 : Int) ≤ s4.length by decide, g5, ?_⟩
     show (nod s4 5).2 = []
     rw [e5]
 · have : pgs s4 2 6 = [6, 4, 5] := by
    unfold pgs
    rw [e6]
    show (6 : Int) :: ([4, 5] : List Int).flatMap (pgs s4 1) = _
    simp only [List.flatMap_cons, List.flatMap_nil, pgs, e4, e5]
    rfl
   rw [this]
   decide
theorem pgs4 : pgs s4 2 6 = [6, 4, 5] := by
 obtain ⟨e4, e5, e6⟩ := nod_s4
 unfold pgs
 rw [e6]
 show (6 : Int) :: ([4, 5] : List Int).flatMap (pgs s4 1) = _
 simp only [List.flatMap_cons, List.flatMap_nil, pgs, e4, e5]
 rfl
theorem its4 : its s4 2 6 = la ++ lb := by
 obtain ⟨e4, e5, e6⟩ := nod_s4
 unfold its
 rw [e6, if_neg (by decide)]
 show ([4, 5] : List Int).flatMap (its s4 1) = _
 simp only [List.flatMap_cons, List.flatMap_nil, its, e4, e5]
 rfl
theorem read4 : readE s4 6 = 0 ∧ readI s4 6 = la ++ lb ∧ readP s4 6 = [4, 5, 6] := by
 obtain ⟨h1, h2, h3⟩ := read_whole (s := s4) (by decide) whole4
 refine ⟨h1, h2.trans its4, h3.trans ?_⟩
 rw [pgs4]
 rfl
end Tr
end Go.Proofs.YtkbmadoaomoojaaGreat
namespace Go.Proofs.YtkbmadoaomoojaaGreat
set_option maxRecDepth 20000
open Go.RowKit
set_option linter.unusedVariables false
namespace Tr
open Lf
def stage : Nat → Pgs × Int
 | 0 => ([], 0)
 | 1 => (s1, 1)
 | 2 => (s2, 2)
 | 3 => (s3, 3)
 | _ => (s4, 6)
theorem putR_of {x : Itm} {s s' : Pgs} {root r : Int} (h : readE s root = 0) (hc : changed (putT x) x.1 s root 16 = .ok (s', r)) : putR x s root = .ok (s', r) := by
 unfold putR
 rw [if_pos h]
 exact hc
theorem stage0 : putR (it 1) [] 0 = .ok (s1, 1) := putR_of rfl put1
theorem readE_leaf {s : Pgs} {root : Int} {l : List Itm} (hl : s.length ≤ 2048) (h1 : 1 ≤ root) (h2 : root ≤ s.length) (hp : page s root = enc (l, [])) (hn : Lf.ok (l, []) = true) (hw : within none none (l, []) = true) : readE s root = 0 := by
 have hd := decode_enc hn
 have en : nod s root = (l, []) := by unfold nod; rw [hp, hd.2]
 refine (read_whole (d := 1) hl ⟨by decide, by decide, ?_, ?_⟩).1
 · unfold Fit
   rw [if_pos rfl]
   refine ⟨⟨h1, h2⟩, ?_, by rw [en]⟩
   unfold good
   rw [hp, hd.1, en, hw]
   rfl
 · unfold pgs
   rw [en]
   simp
theorem stage1 : putR (it 2) s1 1 = .ok (s2, 2) := putR_of (readE_leaf (l := l1) (by decide) (by decide) (by decide) rfl ok1 (by decide)) put2
theorem stage2 : putR (it 3) s2 2 = .ok (s3, 3) := putR_of (readE_leaf (l := l2) (by decide) (by decide) (by decide) rfl ok2 (by decide)) put3
theorem stage3 : putR (it 4) s3 3 = .ok (s4, 6) := putR_of (readE_leaf (l := l3) (by decide) (by decide) (by decide) rfl ok3 (by decide)) put4
theorem nodeE_leaf {s : Pgs} {root : Int} {l : List Itm} (h1 : 1 ≤ root) (h2 : root ≤ s.length) (hp : page s root = enc (l, [])) (hn : Lf.ok (l, []) = true) : ∃ nd, nodeE s root = .ok nd ∧ nd.2 = [] := by
 have hd := decode_enc hn
 refine ⟨(l, []), ?_, rfl⟩
 unfold nodeE nod
 rw [hp, hd.1, hd.2, if_pos ⟨h1, h2, rfl⟩]
theorem stage_leaf {k : Nat} (hk : k < 4) : (stage k).2 ≠ 0 → ∃ nd, nodeE (stage k).1 (stage k).2 = .ok nd ∧ nd.2 = [] := by
 obtain rfl | rfl | rfl | rfl : k = 0 ∨ k = 1 ∨ k = 2 ∨ k = 3 := by omega
 · exact fun h => absurd rfl h
 · exact fun _ => nodeE_leaf (l := l1) (by decide) (by decide) rfl ok1
 · exact fun _ => nodeE_leaf (l := l2) (by decide) (by decide) rfl ok2
 · exact fun _ => nodeE_leaf (l := l3) (by decide) (by decide) rfl ok3
theorem stage_step {k : Nat} (hk : k < 4) : putR (UInt64.ofNat (k + 1), 0) (stage k).1 (stage k).2 = .ok (stage (k + 1)) := by
 obtain rfl | rfl | rfl | rfl : k = 0 ∨ k = 1 ∨ k = 2 ∨ k = 3 := by omega
 · exact stage0
 · exact stage1
 · exact stage2
 · exact stage3
theorem stage_root (k : Nat) : 0 ≤ (stage k).2 ∧ (stage k).2 ≤ 6 := by
 match k with
 | 0 => decide
 | 1 => decide
 | 2 => decide
 | 3 => decide
 | _ + 4 => exact ⟨by show (0 : Int) ≤ 6; decide, by show (6 : Int) ≤ 6; decide⟩
end Tr
theorem alivePut_u (w : World) (P : Nat → Prop) (k : Nat) (hk : k < 4) (I : Int) (hI : I = (k : Int) + 1) (pa : Option Addr) (n pc : Nat) (hR : rSectors.rd w P [.slice pa n pc] (Tr.stage k).1) (r : Int) (hr : r = (Tr.stage k).2) :
 Calls Tryz.prog 15 #[.agg #[.slice pa n pc], .int .i64 r, .agg #[.int .u64 I, .int .u64 0]] w fun e w' => ∃ pa' n' pc', e = .returned (.tuple #[.agg #[.slice pa' n' pc'], .int .i64 (Tr.stage (k + 1)).2, .int .i64 0]) ∧ rSectors.rd w' (fun b => w.heap.size ≤ b) [.slice pa' n' pc'] (Tr.stage (k + 1)).1 ∧ Below w.heap.size w w' := by
 obtain rfl : n = (Tr.stage k).1.length := (rList_len hR).1.symm
 subst hr
 have hs := Tr.stage_root k
 have h := tputF_u w P (Tr.stage k).1 (Tr.stage k).2 (UInt64.ofNat (k + 1), 0) pa pc hR (by omega) (by omega) (Tr.stage_leaf hk) (fun hE y hy => by
  have h9 := Tr.stage_step hk
  unfold Tr.putR at h9
  rw [if_pos hE, hy] at h9
  cases h9)
 have e1 : (((UInt64.ofNat (k + 1), (0 : UInt64)) : Itm).1.toNat : Int) = I := by
  rw [hI]
  show ((UInt64.ofNat (k + 1)).toNat : Int) = _
  rw [UInt64.toNat_ofNat']
  omega
 rw [e1] at h
 refine h.mono ?_
 rintro e w' ⟨b, -, h2⟩
 obtain ⟨a, c, rfl, hr', -⟩ := h2 _ _ (Tr.stage_step hk)
 exact ⟨a, _, c, rfl, hr', b⟩
theorem num8_u (n : Int) (w : World) : Calls Tryz.prog 10 #[.int .i64 n] w fun e w' => e = .returned (.int .i64 n) ∧ w = w' := by
 go_enter Tryz.func10, Tryz.ntmps10
 go_wp2
 go_ret
 exact ⟨rfl, rfl⟩
set_option maxHeartbeats 2000000 in
theorem alive8_u (w : World) : Calls Tryz.prog 9 #[] w fun e w' => e = .returned (.bool true) ∧ Below w.heap.size w w' := by
 obtain ⟨w1, hw1, V1, b1, z1⟩ := boxedRow w 26 [.slice none 0 0]
 have R1 : Hid _ := V1
 have B1 : Hid _ := b1
 have D1 : Hid (rSectors.rd w1 (fun b => w.heap.size ≤ b) [.slice none 0 0] (Tr.stage 0).1) := ⟨none, 0, 0, rfl, rfl, Nat.zero_le _, fun _ => rfl, by decide, fun x hx j hj => by cases hj⟩
 clear V1 b1 z1
 go_enter Tryz.func9, Tryz.ntmps9
 go_wp2
 go_loopw [2, 3] (fun r i wr => ∃ (k : Nat) (I R : Int) (pa : Option Addr) (n pc : Nat), i = .int .i64 I ∧ r = .int .i64 R ∧ Hid (I = (k : Int) + 1) ∧ k ≤ 4 ∧ Hid (R = (Tr.stage k).2) ∧ Hid (Row wr w.heap.size 26 [.slice pa n pc]) ∧ Hid (rSectors.rd wr (fun b => w.heap.size ≤ b) [.slice pa n pc] (Tr.stage k).1) ∧ Hid (Below w.heap.size w wr)) (fun _ i _ => (5 - intOf i).toNat)
 case atStart => exact ⟨0, 1, 0, none, 0, 0, rfl, rfl, rfl, by omega, rfl, R1, D1, B1⟩
 case round =>
  clear R1 D1 B1
  obtain ⟨k, I, R, pa, n, pc, rfl, rfl, HI, hk4, HR, HV, HD, HB⟩ := hrel
  have c0 := HV.out.cell (j := 0) rfl
  have f0 := HV.out.frozen 0
  by_cases hk : k < 4
  · have hI4 : I ≤ 4 := by have := HI.out; omega
    have hI1 : 1 ≤ I := by have := HI.out; omega
    have hIw : IntKind.u64.wrap I = I := by rw [IntKind.wrap_u64]; omega
    have hIa : IntKind.i64.wrap (I + 1) = I + 1 := by rw [IntKind.wrap_i64]; omega
    have HK : Hid _ := hk
    go_wp2_with fail
    go_at_call 15
    refine (alivePut_u wr _ k HK.out I HI.out pa n pc HD.out R HR.out).mono ?_
    rintro e w3 ⟨pa', n', pc', rfl, hd3, b3⟩
    obtain ⟨R', hR'⟩ : ∃ R', R' = (Tr.stage (k + 1)).2 := ⟨_, rfl⟩
    rw [← hR']
    have HR' : Hid (R' = (Tr.stage (k + 1)).2) := hR'
    obtain ⟨w4, hw4, V4, b4, z4⟩ := boxedRow w3 26 [.slice pa' n' pc']
    have c4 := V4.cell (j := 0) rfl
    have HV4 : Hid _ := (HV.out.below b3).below b4
    have HD4 : Hid (rSectors.rd w4 (fun b => wr.heap.size ≤ b) [.slice pa' n' pc'] (Tr.stage (k + 1)).1) := Rep.below hd3 b4
    have HB4 : Hid (Below w.heap.size w w4) := on (on HB.out b3) b4
    have HVl : Hid (w.heap.size < wr.heap.size) := HV.out.lt
    have d0 := HV4.out.cell (j := 0) rfl
    have g0 := HV4.out.frozen 0
    clear c0 f0 hd3 b3 b4 V4 z4 hR' HD HV
    go_wp2_with (go_at_call 10; refine (num8_u _ _).mono ?_; rintro e w99 ⟨rfl, rfl⟩)
    have HV5 : Hid (Row (w4.setCell ⟨w.heap.size, 0, none⟩ (.slice pa' n' pc')) w.heap.size 26 [.slice pa' n' pc']) := HV4.out.set 0 _
    have K5 : Kept (· ≠ w.heap.size) w4 (w4.setCell ⟨w.heap.size, 0, none⟩ (.slice pa' n' pc')) := (Kept.refl _ _).setCell (p := ⟨w.heap.size, 0, none⟩) (fun h => h rfl) _
    have HD5 : Hid (rSectors.rd (w4.setCell ⟨w.heap.size, 0, none⟩ (.slice pa' n' pc')) (fun b => w.heap.size ≤ b) [.slice pa' n' pc'] (Tr.stage (k + 1)).1) := rSectors.weaken (Rep.kept HD4.out K5 (fun b hb _ => by have h1 : wr.heap.size ≤ b := hb; have h2 := HVl.out; show b ≠ w.heap.size; omega)) (fun b hb _ => by have h1 : wr.heap.size ≤ b := hb; have h2 := HVl.out; show w.heap.size ≤ b; omega)
    have HB5 : Hid (Below w.heap.size w (w4.setCell ⟨w.heap.size, 0, none⟩ (.slice pa' n' pc'))) := HB4.out.setCell (p := ⟨w.heap.size, 0, none⟩) (Nat.le_refl _) _
    clear K5
    go_roundw
    case rel => exact ⟨k + 1, I + 1, R', pa', n', pc', rfl, rfl, by unfold Hid; rw [HI.out]; omega, by omega, HR', HV5, HD5, HB5⟩
    case measure => simp only [intOf]; omega
  · obtain rfl : k = 4 := by omega
    obtain rfl : I = 5 := HI.out
    obtain rfl : R = 6 := HR.out
    obtain ⟨h1, h2, h3⟩ := Tr.read4
    have HD6 : Hid (rSectors.rd wr (fun b => w.heap.size ≤ b) [.slice pa n pc] Tr.s4) := HD.out
    obtain rfl : n = Tr.s4.length := (rList_len HD6.out).1.symm
    have HRg : Hid _ := trange_u wr _ Tr.s4 6 0 9 pa pc HD6.out (by decide) (by decide) (by decide) (by decide)
    have e9 : Tr.rangeE Tr.s4 6 9 = 0 := by unfold Tr.rangeE; rw [if_pos h1]; rfl
    have e8 : (Tr.rangeL Tr.s4 6 0 9).length = 4 := by unfold Tr.rangeL; rw [if_pos ⟨h1, by decide⟩, h2]; decide
    rw [e9] at HRg
    have HE8 : Hid _ := e8
    clear e9 e8
    go_wp2_with fail
    go_at_call 12
    refine Calls.mono HRg.out ?_
    rintro e w3 ⟨a3, n3, c3, rfl, ho3, b3⟩
    obtain rfl : n3 = 4 := by obtain ⟨p, q, e, -⟩ := ho3.slice; simp only [Value.slice.injEq] at e; rw [e.2.1]; exact HE8.out
    have HV3 : Hid _ := HV.out.below b3
    have HRe : Hid _ := reach_u w3 _ Tr.s4 6 pa pc (Rep.below HD6.out b3) (by decide) (by decide)
    rw [h1] at HRe
    have HP3 : Hid ((Tr.readP Tr.s4 6).length = 3) := by unfold Hid; rw [h3]; rfl
    have B3 : Hid _ := on HB.out b3
    have c3' := HV3.out.cell (j := 0) rfl
    clear ho3 b3 HV HD HB h1 h2 h3 c0 f0
    go_wp2_with fail
    go_at_call 17
    refine Calls.mono HRe.out ?_
    rintro e w4 ⟨a4, n4, c4, rfl, ho4, b4⟩
    obtain rfl : n4 = 3 := by obtain ⟨p, q, e, -⟩ := ho4.slice; simp only [Value.slice.injEq] at e; rw [e.2.1]; exact HP3.out
    have B4 : Hid _ := on B3.out b4
    clear ho4 b4 c3'
    go_wp2_with (go_at_call 10; refine (num8_u _ _).mono ?_; rintro e w99 ⟨rfl, rfl⟩)
    go_ret
    exact ⟨rfl, B4.out⟩
end Go.Proofs.YtkbmadoaomoojaaGreat
