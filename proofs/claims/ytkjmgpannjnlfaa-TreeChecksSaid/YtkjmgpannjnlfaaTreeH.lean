/- The law's own examples answer true, in whatever memory. -/
import Derived.Test.YtkjmgpannjnlfaaTreeG
namespace Go.Proofs.Ytkjmgpannjnlfaa
open Go.RowKit Go.Proofs.BerM Go.Proofs.BerK

theorem strAt_new (w : World) (l : List (List UInt8)) (e : TypeId) (h : 0 < l.length) : StrAt (w.alloc (.cells (sc l).toArray e)) (.slice (some ⟨w.heap.size, 0, none⟩) l.length l.length) l := by
  refine .inr ⟨h, w.heap.size, 0, l.length, rfl, by simp, fun i hi => ?_⟩
  rw [World.cell?_alloc_mark w _ e (0, 0)]
  simp [sc, hi]
theorem strU_new (w : World) (l : List (List UInt8)) (e : TypeId) : StrU (w.alloc (.cells (sc l).toArray e)) (.slice (some ⟨w.heap.size, 0, none⟩) l.length l.length) l := by
  refine ⟨_, _, rfl, fun i hi => ⟨w.heap.size, rfl, by simp, ?_⟩⟩
  rw [World.cell?_alloc_mark w _ e (0, 0)]
  simp [sc, hi]
theorem intAt_new (w : World) (l : List Nat) (e : TypeId) : IntAt (w.alloc (.cells (l.map fun n => Value.int .i64 (n : Nat)).toArray e)) (.slice (some ⟨w.heap.size, 0, none⟩) l.length l.length) l := by
  refine ⟨_, _, rfl, fun i hi => ⟨w.heap.size, rfl, by simp, ?_⟩⟩
  rw [World.cell?_alloc_mark w _ e (0, 0)]
  simp [hi]

theorem seq_1 (w : World) (B : Nat) (hB : B = w.heap.size) : Calls Try.prog 11 #[.slice (some ⟨B, 0, none⟩) 2 2] (w.alloc (.cells #[.string ⟨#[4, 1, 97]⟩, .string ⟨#[2, 1, 5]⟩] 9)) fun e w' => e = .returned (.tuple #[.string ⟨#[48, 6, 4, 1, 97, 2, 1, 5]⟩, .int .i64 0]) ∧ Below w.heap.size w w' := by
  subst hB
  refine (seq_any [[4, 1, 97], [2, 1, 5]] _ _ (strAt_new w [[4, 1, 97], [2, 1, 5]] 9 (by decide)) (by decide) (by decide)).mono ?_
  rintro e w' ⟨rfl, hb⟩
  exact ⟨rfl, ((Below.refl _ _).alloc (Nat.le_refl _) _).trans (hb.mono (by simp))⟩
theorem seq_2 (w : World) : Calls Try.prog 11 #[.slice none 0 0] w fun e w' => e = .returned (.tuple #[.string ⟨#[48, 0]⟩, .int .i64 0]) ∧ Below w.heap.size w w' :=
  (seq_any [] _ w (.inl ⟨rfl, none, 0, rfl⟩) (by decide) (by decide)).mono fun _ _ ⟨h1, h2⟩ => ⟨h1, h2⟩
/-- Parts' answer, the block of the tags new. -/
def PaPost' (B : List (List UInt8)) (e : Nat) (w : World) (en : Ending) (w' : World) : Prop :=
  ∃ v, en = .returned (.tuple #[v, .int .i64 (e : Nat)]) ∧ StrU w' v B ∧ Below w.heap.size w w'
theorem parts_new (l : List Nat) (hl : l.length ≤ 1024) (w : World) (n : Nat) (hn : n = l.length) (cs : Array Value) (hc : cs = (l.map fun n => Value.int .i64 (n : Nat)).toArray) (C : Nat) (hC : C = w.heap.size) (s : List UInt8) (hs : s.length ≤ 1000) (B : List (List UInt8)) (e : Nat) (h : pa s l = (B, e)) (t : TypeId) :
    Calls Try.prog 13 #[.string ⟨s.toArray⟩, .slice (some ⟨C, 0, none⟩) n n] (w.alloc (.cells cs t)) (PaPost' B e w) := by
  subst hn hc hC
  refine (parts_any ⟨s.toArray⟩ _ l _ (by unfold maxLen; show s.length ≤ _; omega) (intAt_new w l t) hl B e h).mono ?_
  rintro en w' ⟨v, rfl, ho, hb⟩
  exact ⟨v, rfl, strU_owns ho, ((Below.refl _ _).alloc (Nat.le_refl _) _).trans (hb.mono (by simp))⟩
theorem parts_1 (w : World) (C : Nat) (hC : C = w.heap.size) : Calls Try.prog 13 #[.string ⟨#[48, 6, 4, 1, 97, 2, 1, 5]⟩, .slice (some ⟨C, 0, none⟩) 2 2] (w.alloc (.cells #[.int .i64 4, .int .i64 2] 3)) (PaPost' [[97], [5]] 0 w) :=
  parts_new [4, 2] (by decide) w 2 rfl _ rfl C hC [48, 6, 4, 1, 97, 2, 1, 5] (by decide) _ _ (by decide +kernel) _
theorem parts_2 (w : World) (C : Nat) (hC : C = w.heap.size) : Calls Try.prog 13 #[.string ⟨#[48, 6, 4, 1, 97, 2, 1, 5]⟩, .slice (some ⟨C, 0, none⟩) 1 1] (w.alloc (.cells #[.int .i64 4] 3)) (PaPost' [] 5 w) :=
  parts_new [4] (by decide) w 1 rfl _ rfl C hC [48, 6, 4, 1, 97, 2, 1, 5] (by decide) _ _ (by decide +kernel) _
theorem parts_3 (w : World) (C : Nat) (hC : C = w.heap.size) : Calls Try.prog 13 #[.string ⟨#[48, 6, 4, 1, 97, 2, 1, 5]⟩, .slice (some ⟨C, 0, none⟩) 2 2] (w.alloc (.cells #[.int .i64 4, .int .i64 4] 3)) (PaPost' [] 6 w) :=
  parts_new [4, 4] (by decide) w 2 rfl _ rfl C hC [48, 6, 4, 1, 97, 2, 1, 5] (by decide) _ _ (by decide +kernel) _
theorem texts_1 (w : World) (C : Nat) (hC : C = w.heap.size) (v : Value) (hv : StrU w v [[97], [5]]) : Calls Try.prog 15 #[v, .slice (some ⟨C, 0, none⟩) 2 2] (w.alloc (.cells #[.string ⟨#[97]⟩, .string ⟨#[5]⟩] 9)) fun e w' => e = .returned (.bool true) ∧ Below w.heap.size w w' := by
  subst hC
  refine (texts_any [[97], [5]] v _ _ (strU_below hv ((Below.refl _ _).alloc (Nat.le_refl _) _)) (strU_new w [[97], [5]] 9) (by decide)).mono ?_
  rintro e w' ⟨rfl, n, rfl⟩
  exact ⟨rfl, below_dn ((Below.refl _ _).alloc (Nat.le_refl _) _) n⟩
theorem depth_1 (w : World) : Calls Try.prog 9 #[.string ⟨#[48, 0]⟩] w fun e w' => e = .returned (.int .i64 1) ∧ Below w.heap.size w w' :=
  depth_any ⟨#[48, 0]⟩ w (by decide) 1 (by decide +kernel)
theorem depth_2 (w : World) : Calls Try.prog 9 #[.string ⟨#[48, 6, 4, 1, 97, 2, 1, 5]⟩] w fun e w' => e = .returned (.int .i64 2) ∧ Below w.heap.size w w' :=
  depth_any ⟨#[48, 6, 4, 1, 97, 2, 1, 5]⟩ w (by decide) 2 (by decide +kernel)
theorem check_1 (w : World) : Calls Try.prog 7 #[.string ⟨#[48, 6, 4, 1, 97, 2, 1, 5]⟩, .int .i64 1] w fun e w' => e = .returned (.int .i64 7) ∧ Below w.heap.size w w' :=
  check_any ⟨#[48, 6, 4, 1, 97, 2, 1, 5]⟩ 1 w (by decide) 7 (by decide +kernel)
theorem check_2 (w : World) : Calls Try.prog 7 #[.string ⟨#[48, 6, 4, 1, 97, 2, 1, 5]⟩, .int .i64 2] w fun e w' => e = .returned (.int .i64 0) ∧ Below w.heap.size w w' :=
  check_any ⟨#[48, 6, 4, 1, 97, 2, 1, 5]⟩ 2 w (by decide) 0 (by decide +kernel)

set_option maxHeartbeats 1600000 in
set_option maxRecDepth 100000 in
theorem awake_any (w : World) : Calls Try.prog 6 #[] w fun e w' => e = .returned (.bool true) ∧ Below w.heap.size w w' := by
  go_enter Try.func6, Try.ntmps6
  go_wp2_with fail
  refine (seq_1 w _ rfl).mono ?_
  rintro en w1 ⟨rfl, hb1⟩
  go_wp2_with fail
  refine (parts_1 w1 _ rfl).mono ?_
  rintro en w2 ⟨v2, rfl, hu, hb2⟩
  have hb2' := hb1.trans (hb2.mono hb1.size)
  clear hb2 hb1
  go_wp2_with fail
  refine (parts_2 w2 _ rfl).mono ?_
  rintro en w3 ⟨v3, rfl, _, hb3⟩
  have hu3 := strU_below hu hb3
  have hb3' := hb2'.trans (hb3.mono hb2'.size)
  clear hb3 hb2' hu
  go_wp2_with fail
  refine (parts_3 w3 _ rfl).mono ?_
  rintro en w4 ⟨v4, rfl, _, hb4⟩
  have hu4 := strU_below hu3 hb4
  have hb4' := hb3'.trans (hb4.mono hb3'.size)
  clear hb4 hb3' hu3
  go_wp2_with fail
  refine (seq_2 w4).mono ?_
  rintro en w5 ⟨rfl, hb5⟩
  have hu5 := strU_below hu4 hb5
  have hb5' := hb4'.trans (hb5.mono hb4'.size)
  clear hb5 hb4' hu4
  have HU := Lib.hid hu5
  clear hu5
  go_wp2_with fail
  refine (texts_1 w5 _ rfl v2 HU.out).mono ?_
  rintro en w6 ⟨rfl, hb6⟩
  have hb6' := hb5'.trans (hb6.mono hb5'.size)
  clear hb6 hb5'
  go_wp2_with fail
  refine (depth_1 w6).mono ?_
  rintro en w7 ⟨rfl, hb7⟩
  have hb7' := hb6'.trans (hb7.mono hb6'.size)
  clear hb7 hb6'
  go_wp2_with fail
  refine (depth_2 w7).mono ?_
  rintro en w8 ⟨rfl, hb8⟩
  have hb8' := hb7'.trans (hb8.mono hb7'.size)
  clear hb8 hb7'
  go_wp2_with fail
  refine (check_1 w8).mono ?_
  rintro en w9 ⟨rfl, hb9⟩
  have hb9' := hb8'.trans (hb9.mono hb8'.size)
  clear hb9 hb8'
  go_wp2_with fail
  refine (check_2 w9).mono ?_
  rintro en w10 ⟨rfl, hb10⟩
  have hb10' := hb9'.trans (hb10.mono hb9'.size)
  clear hb10 hb9'
  go_wp2
  go_ret
  exact ⟨rfl, hb10'⟩
end Go.Proofs.Ytkjmgpannjnlfaa
