/-
  The page's example of a host holds of the program. Conditions: none.
-/
import Derived.Test.YtckcicomkapdeaaHCrash
import Derived.Test.YtckcicomkapdeaaRNum
namespace Go.Proofs.Ytckcicomkapdeaa
open Go.RowKit
set_option linter.unusedVariables false

theorem stored3 {w : World} {b : Nat} {x y z : Value} (V : Var3 w b x y z) (u0 u1 u2 : Value) :
    ∃ w', ((w.setCell ⟨b, 0, none⟩ u0).setCell ⟨b, 1, none⟩ u1).setCell ⟨b, 2, none⟩ u2 = w' ∧ Var3 w' b u0 u1 u2 ∧ Kept (· ≠ b) w w' :=
  ⟨_, rfl, V.whole u0 u1 u2⟩

def oneB : List UInt8 := 1 :: List.replicate 63 0
def al1 : Host := ([], [], 4)
def al2 : Host := ([], [(2, 2, [])], 4)
def al3 : Host := ([Hst.zeros, Hst.zeros], [], 4)
def al4 : Host := ([Hst.zeros, Hst.zeros], [(1, 1, oneB)], 4)

theorem al_new : Hst.newS 4 = al1 ∧ Hst.newE 4 = 0 := by constructor <;> rfl
theorem al_resize : Hst.resizeS al1 2 = al2 ∧ Hst.resizeE al1 2 = 0 := by constructor <;> rfl
theorem al_flush : Hst.flushS al2 = al3 ∧ Hst.checkE al2 = 0 := by constructor <;> rfl
theorem al_write : Hst.writeS al3 1 oneB = al4 ∧ Hst.writeE al3 1 oneB = 0 := by constructor <;> rfl
theorem al_crash : Hst.crashS al4 [] = al3 ∧ Hst.checkE al4 = 0 := by constructor <;> rfl
theorem al_read : Hst.readL al4 1 = oneB ∧ Hst.readE al4 1 = 0 := by constructor <;> rfl

theorem oneB_cells : (List.replicate 64 (Value.int .u8 0)).set 0 (.int .u8 1) = cellsOf oneB := rfl

theorem rBools_nil (w : World) (P : Nat → Prop) : rBools.rd w P [.slice none 0 0] [] := ⟨none, 0, 0, rfl, rfl, Nat.le_refl _, fun _ => rfl, by decide, fun x hx => by cases hx⟩

set_option maxHeartbeats 4000000 in
theorem alive_u (w : World) : Calls Try.prog 28 #[] w fun e w' => e = .returned (.bool true) ∧ Below w.heap.size w w' := by
  go_enter Try.func28, Try.ntmps28
  go_wp2_with (first
    | (go_at_call 49
       refine (new_u _ 4 (by decide) (by decide)).mono ?_
       rintro e w1 ⟨cs1, rfl, hr1, b1⟩
       rw [al_new.1] at hr1
       rw [al_new.2]
       have hr1' := hr1
       obtain ⟨a1, n1, c1, d1, m1, e1, rfl, -⟩ := rHost_cells hr1'
       clear hr1'
       obtain ⟨v1, hv1, -, -, -, bv1, zv1⟩ := boxed3 w1 30 (.slice a1 n1 c1) (.slice d1 m1 e1) (.int .i64 al1.2.2)
       have V1 : Hid (Var3 v1 w1.heap.size (.slice a1 n1 c1) (.slice d1 m1 e1) (.int .i64 al1.2.2)) := by rw [← hv1]; exact var3_new _ _ _ _ _
       have HR1 : Hid _ := Rep.below hr1 bv1
       have BV1 : Hid _ := on b1 bv1
       have HZ1 : Hid _ := zv1
       clear hr1 zv1
       have p10 := V1.out.c0
       have p11 := V1.out.c1
       have p12 := V1.out.c2)
    | (go_at_call 13
       refine (resize_u _ _ _ _ 2 (by decide) (by decide) HR1.out).mono ?_
       rintro e w2 ⟨cs2, rfl, hr2, b2⟩
       rw [al_resize.1] at hr2
       rw [al_resize.2]
       have hr2' := hr2
       obtain ⟨a2, n2, c2, d2, m2, e2, rfl, -⟩ := rHost_cells hr2'
       clear hr2' p10 p11 p12
       have W2 := V1.out.below b2
       obtain ⟨v2, hv2, V2', k2⟩ := stored3 W2 (.slice a2 n2 c2) (.slice d2 m2 e2) (.int .i64 al2.2.2)
       have V2 : Hid _ := V2'
       have hlt1 : w1.heap.size < v1.heap.size := by have := HZ1.out; omega
       have HR2 : Hid _ := Rep.kept hr2 k2 (fun b hb _ => by show b ≠ w1.heap.size; have h1 : v1.heap.size ≤ b := hb; omega)
       have hb1w : w.heap.size ≤ w1.heap.size := b1.size
       have BV2 : Hid _ := Kept.belowOf (on BV1.out b2) k2 hb1w
       have hlt2 : w1.heap.size < v2.heap.size := V2.out.lt
       have p20 := W2.c0
       have p21 := W2.c1
       have p22 := W2.c2
       have f20 := W2.f 0
       have f21 := W2.f 1
       have f22 := W2.f 2
       have q20 := V2.out.c0
       have q21 := V2.out.c1
       have q22 := V2.out.c2
       clear hr2 V2' W2 k2)
    | (go_at_call 15
       refine (flush_u _ _ _ _ HR2.out).mono ?_
       rintro e w3 ⟨cs3, rfl, hr3, b3⟩
       rw [al_flush.1] at hr3
       rw [al_flush.2]
       have hr3' := hr3
       obtain ⟨a3, n3, c3, d3, m3, e3, rfl, -⟩ := rHost_cells hr3'
       clear hr3' p20 p21 p22 f20 f21 f22 q20 q21 q22
       have W3 := V2.out.below b3
       obtain ⟨v3, hv3, V3', k3⟩ := stored3 W3 (.slice a3 n3 c3) (.slice d3 m3 e3) (.int .i64 al3.2.2)
       have V3 : Hid _ := V3'
       have HR3 : Hid _ := Rep.kept hr3 k3 (fun b hb _ => by show b ≠ w1.heap.size; have h1 : v2.heap.size ≤ b := hb; omega)
       have BV3 : Hid _ := Kept.belowOf (on BV2.out b3) k3 hb1w
       have hlt3 : w1.heap.size < v3.heap.size := V3.out.lt
       have p30 := W3.c0
       have p31 := W3.c1
       have p32 := W3.c2
       have f30 := W3.f 0
       have f31 := W3.f 1
       have f32 := W3.f 2
       have q30 := V3.out.c0
       have q31 := V3.out.c1
       have q32 := V3.out.c2
       clear hr3 V3' W3 k3)
    | (at_make
       refine make_row _ rfl _ _ 26 rfl 5 (.int .u8 0) 1 Try.underlying26 info_u8 rfl 64 _ rfl rfl rfl (by decide) (by decide) ?_
       intro w4 HR b4 z4
       obtain ⟨v4, hv4⟩ : ∃ v4, w4.setCell ⟨v3.heap.size, 0, none⟩ (.int .u8 1) = v4 := ⟨_, rfl⟩
       have c4 := HR.out.cell (j := 0) (v := .int .u8 0) rfl
       have f4 := HR.out.frozen 0
       have R4 := HR.out.set 0 (.int .u8 1)
       rw [oneB_cells, hv4] at R4
       have k4 : Kept (· ≠ v3.heap.size) w4 v4 := by rw [← hv4]; exact (Kept.refl _ _).setCell (p := ⟨v3.heap.size, 0, none⟩) (fun h => h rfl) _
       have bv4 : Hid (Below v3.heap.size v3 v4) := Kept.belowOf b4 k4 (Nat.le_refl _)
       have HB4 : Hid (rBytes.rd v4 (fun _ => True) [.slice (some ⟨v3.heap.size, 0, none⟩) 64 64] oneB) := rd_row R4 (fun j v h => h) (rdAll_bytes _ _ _) rfl (Nat.le_refl _) (by decide) trivial
       have V4 : Hid _ := V3.out.below bv4.out
       have q40 := V4.out.c0
       have q41 := V4.out.c1
       have q42 := V4.out.c2
       clear p30 p31 p32 f30 f31 f32 q30 q31 q32 R4 k4 b4)
    | (go_at_call 11
       refine (write_u _ (fun _ => True) _ _ 1 _ 64 64 oneB (by decide) (by decide) (rHost.weaken (Rep.below HR3.out bv4.out) (fun _ _ _ => trivial)) HB4.out).mono ?_
       rintro e w5 ⟨cs5, rfl, hr5, b5⟩
       rw [al_write.1] at hr5
       rw [al_write.2]
       have hr5' := hr5
       obtain ⟨a5, n5, c5, d5, m5, e5, rfl, -⟩ := rHost_cells hr5'
       clear hr5' q40 q41 q42
       obtain ⟨v5, hv5, -, -, -, bv5, zv5⟩ := boxed3 w5 30 (.slice a5 n5 c5) (.slice d5 m5 e5) (.int .i64 al4.2.2)
       have V5 : Hid (Var3 v5 w5.heap.size (.slice a5 n5 c5) (.slice d5 m5 e5) (.int .i64 al4.2.2)) := by rw [← hv5]; exact var3_new _ _ _ _ _
       have HR5 : Hid _ := Rep.below hr5 bv5
       have BV5 : Hid _ := on (on (on BV3.out bv4.out) b5) bv5
       have p50 := V5.out.c0
       have p51 := V5.out.c1
       have p52 := V5.out.c2
       have HZ5 : Hid _ := zv5
       clear hr5 zv5)
    | (go_at_call 17
       refine (crash_u _ _ _ _ none 0 0 [] HR5.out (rBools_nil _ _)).mono ?_
       rintro e w6 ⟨cs6, rfl, hr6, b6⟩
       rw [al_crash.1] at hr6
       rw [al_crash.2]
       have hr6' := hr6
       obtain ⟨a6, n6, c6, d6, m6, e6, rfl, hA6, -, hn6, -⟩ := rHost_cells hr6'
       clear hr6' p50 p51 p52
       obtain ⟨v6, hv6, -, -, -, bv6, zv6⟩ := boxed3 w6 30 (.slice a6 n6 c6) (.slice d6 m6 e6) (.int .i64 al3.2.2)
       have V6 : Hid (Var3 v6 w6.heap.size (.slice a6 n6 c6) (.slice d6 m6 e6) (.int .i64 al3.2.2)) := by rw [← hv6]; exact var3_new _ _ _ _ _
       have V56 : Hid _ := (V5.out.below b6).below bv6
       have HA6 : Hid _ := Rep.below hA6 bv6
       have HN6 : Hid _ := hn6
       have BV6 : Hid _ := on (on BV5.out b6) bv6
       have HR56 : Hid _ := Rep.below HR5.out (on b6 bv6)
       have p60 := V56.out.c0
       have p61 := V56.out.c1
       have p62 := V56.out.c2
       clear hr6 zv6 hA6 hn6)
    | (go_at_call 19
       refine (read_u _ _ _ _ 1 HR56.out).mono ?_
       rintro e w7 ⟨a7, n7, c7, rfl, hr7, b7⟩
       rw [al_read.1] at hr7
       rw [al_read.2]
       obtain rfl : n7 = 64 := by have h := (rBytes_isB hr7).1.1; rw [← h]; rfl
       obtain ⟨g7, o7, rfl, hc7⟩ := (rBytes_isB hr7).1.place (by decide)
       have z7 : w7.cell? ⟨g7, o7, none⟩ = some (.int .u8 1) := hc7 0 (by decide)
       obtain rfl : n6 = 2 := by have h := HN6.out; rw [← h]; rfl
       obtain ⟨g6, o6, rfl, -, -, hat⟩ := rLists_at (Rep.below HA6.out b7) (by decide)
       obtain ⟨x8, m8, d8, hx8, hl8, hcell8⟩ := hat 1 (by decide)
       obtain rfl : m8 = 64 := by rw [← hl8]; rfl
       obtain ⟨g8, o8, rfl, hc8⟩ := (rBytes_isB hx8).1.place (by decide)
       have z8 : w7.cell? ⟨g8, o8, none⟩ = some (.int .u8 0) := hc8 0 (by decide)
       have V7 : Hid _ := V6.out.below b7
       have p70 := V7.out.c0
       have BV7 : Hid _ := on BV6.out b7
       clear hat hx8 hl8 hc7 hc8 hr7 p60 p61 p62)
    | (go_at_call 24
       refine (num_u _ _).mono ?_
       rintro e w8 ⟨rfl, rfl⟩))
  go_ret
  exact ⟨rfl, BV7.out⟩

end Go.Proofs.Ytckcicomkapdeaa
