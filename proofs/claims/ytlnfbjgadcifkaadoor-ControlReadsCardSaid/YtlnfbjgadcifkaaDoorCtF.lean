/- The code's ReadPersist, noticeParts and ReadNotice. -/
import Derived.Test.YtlnfbjgadcifkaaDoorCtD
namespace Go.Proofs.YtlnfbjgadcifkaaDoor
set_option linter.unusedSimpArgs false
set_option linter.unusedVariables false
open Go Go.RowKit Go.Proofs.BerM Go.Proofs.BerK Go.Proofs.MemK Go.Proofs.NumM

theorem cparts_new (l : List Nat) (hl : l.length ≤ 1024) (s : List UInt8) (hs : s.length ≤ maxLen) (B : List (List UInt8)) (e : Nat) (h : pa s l = (B, e)) (n : Nat) (hn : n = l.length) (cs : Array Value) (hc : cs = (l.map fun n => Value.int .i64 (n : Nat)).toArray) (t : TypeId) (w : World) (C : Nat) (hC : C = w.heap.size) :
    Calls Tryd.prog 28 #[.string ⟨s.toArray⟩, .slice (some ⟨C, 0, none⟩) n n] (w.alloc (.cells cs t)) (fun en w' => ∃ v, en = .returned (.tuple #[v, .int .i64 (e : Nat)]) ∧ w'.ownsRow (w.heap.size + 1) 9 1 v B.length (sc B) ∧ Below (w.heap.size + 1) (w.alloc (.cells cs t)) w') := by
  subst hn hc hC
  refine (parts_any ⟨s.toArray⟩ _ l _ hs (intAt_new w l t) hl B e h).mono ?_
  rintro en w' ⟨v, rfl, ho, hb⟩
  rw [World.size_alloc] at ho hb
  exact ⟨v, rfl, ho, hb⟩
theorem pa_lens {s : List UInt8} {ts : List Nat} {B : List (List UInt8)} (h : pa s ts = (B, 0)) : B.length = ts.length := by
  unfold pa at h
  repeat' split at h
  all_goals
    simp only [Prod.mk.injEq] at h
  · exact absurd h.2 (by assumption)
  · simp at h
  · simp at h
  · exact absurd h.2 (by assumption)
  · simp at h
  · rename_i h1 h2
    rw [← h.1, ← h2]; simp
  · simp at h
theorem three_of {α : Type} {l : List α} (h : l.length = 3) : ∃ a b c, l = [a, b, c] := by
  match l, h with
  | [a, b, c], _ => exact ⟨a, b, c, rfl⟩
theorem two_of {α : Type} {l : List α} (h : l.length = 2) : ∃ a b, l = [a, b] := by
  match l, h with
  | [a, b], _ => exact ⟨a, b, rfl⟩
theorem own_three {w : World} {B e : Nat} {v : Value} {a b c : List UInt8} (h : w.ownsRow B e 1 v 3 (sc [a, b, c])) :
    ∃ g k, v = .slice (some ⟨g, 0, none⟩) 3 k ∧ g < w.heap.size ∧ w.cell? ⟨g, 0, none⟩ = some (.string ⟨a.toArray⟩) ∧ w.cell? ⟨g, 1, none⟩ = some (.string ⟨b.toArray⟩) ∧ w.cell? ⟨g, 2, none⟩ = some (.string ⟨c.toArray⟩) := by
  rcases h.2 with ⟨rfl, h0⟩ | ⟨g, cap, cur, rfl, _, hg, _⟩
  · omega
  · exact ⟨g, cap, rfl, (Array.getElem?_eq_some_iff.1 hg).1, h.cellAt 0 (by omega), h.cellAt 1 (by omega), h.cellAt 2 (by omega)⟩
theorem own_two {w : World} {B e : Nat} {v : Value} {a b : List UInt8} (h : w.ownsRow B e 1 v 2 (sc [a, b])) :
    ∃ g k, v = .slice (some ⟨g, 0, none⟩) 2 k ∧ g < w.heap.size ∧ 2 ≤ k ∧ k ≤ maxLen ∧ w.cell? ⟨g, 0, none⟩ = some (.string ⟨a.toArray⟩) ∧ w.cell? ⟨g, 1, none⟩ = some (.string ⟨b.toArray⟩) := by
  rcases h.2 with ⟨rfl, h0⟩ | ⟨g, cap, cur, rfl, _, hg, hn, hm, _⟩
  · omega
  · exact ⟨g, cap, rfl, (Array.getElem?_eq_some_iff.1 hg).1, hn, hm, h.cellAt 0 (by omega), h.cellAt 1 (by omega)⟩
theorem strU_three {w : World} {v : Value} {a b c : List UInt8} (h : StrU w v [a, b, c]) :
    ∃ g k, v = .slice (some ⟨g, 0, none⟩) 3 k ∧ g < w.heap.size ∧ w.cell? ⟨g, 0, none⟩ = some (.string ⟨a.toArray⟩) ∧ w.cell? ⟨g, 1, none⟩ = some (.string ⟨b.toArray⟩) ∧ w.cell? ⟨g, 2, none⟩ = some (.string ⟨c.toArray⟩) := by
  obtain ⟨ad, k, rfl, h⟩ := h
  obtain ⟨g, rfl, hg, h0⟩ := h 0 (by simp)
  obtain ⟨g1, e1, _, h1⟩ := h 1 (by simp)
  obtain ⟨g2, e2, _, h2⟩ := h 2 (by simp)
  injection e1 with e1; injection e1 with e1; subst e1
  injection e2 with e2; injection e2 with e2; subst e2
  exact ⟨g, k, rfl, hg, h0, h1, h2⟩

/-- What ReadPersist hands back. -/
def PrPost (p : (Int × Bool × Bool) × Nat) (w : World) (en : Ending) (w' : World) : Prop := en = .returned (.tuple #[.agg #[.int .i64 p.1.1, .bool p.1.2.1, .bool p.1.2.2], .int .i64 (p.2 : Nat)]) ∧ Below w.heap.size w w'
/-- What ReadNotice hands back. -/
def NtPost (p : (Int × List UInt8 × Int) × Nat) (w : World) (en : Ending) (w' : World) : Prop := en = .returned (.tuple #[.agg #[.int .i64 p.1.1, .string ⟨p.1.2.1.toArray⟩, .int .i64 p.1.2.2], .int .i64 (p.2 : Nat)]) ∧ Below w.heap.size w w'
theorem below_set3' {B : Nat} {a w : World} (h : Below B a w) {g : Nat} (hg : B ≤ g) (x y z : Value) : Below B a (((w.setCell ⟨g, 0, none⟩ x).setCell ⟨g, 1, none⟩ y).setCell ⟨g, 2, none⟩ z) :=
  ((h.setCell (p := ⟨g, 0, none⟩) hg x).setCell (p := ⟨g, 1, none⟩) hg y).setCell (p := ⟨g, 2, none⟩) hg z

set_option maxHeartbeats 3200000 in
set_option maxRecDepth 100000 in
theorem cper_any (s : List UInt8) (w : World) (hs : s.length ≤ maxLen) : Calls Tryd.prog 13 #[.string ⟨s.toArray⟩] w (PrPost (peR s) w) := by
  obtain ⟨B, e, hp⟩ : ∃ B e, pa s [2, 1, 1] = (B, e) := ⟨_, _, rfl⟩
  have HP := Lib.hid (fun w' C hC => cparts_new [2, 1, 1] (by decide) s hs B e hp 3 rfl #[.int .i64 2, .int .i64 1, .int .i64 1] rfl 3 w' C hC)
  have hZ : Below w.heap.size w (w.alloc (.cells #[.int .i64 0, .bool false, .bool false] 23)) := (Below.refl _ w).alloc (Nat.le_refl _) _
  have HZ := Lib.hid hZ
  clear hZ
  by_cases he : ¬ e = 0
  · have hv : peR s = ((0, false, false), 5) := by unfold peR; rw [hp, if_pos he]
    have h1 : ((e : Int) != 0) = true := by rw [bne_iff_ne]; omega
    rw [hv]
    clear hv hp he
    go_enter Tryd.func13, Tryd.ntmps13
    go_wp2_with fail
    refine (HP.out _ _ (by simp)).mono ?_
    rintro en w1 ⟨v, rfl, ho, hb1⟩
    have hb1 := ((Below.refl _ _).alloc (Nat.le_refl _) _).trans (hb1.mono (Nat.le_succ _))
    have hbox := obj_below (heap_alloc_new w _) hb1 (by simp)
    have b0 := obj_cell hbox 0 _ rfl
    have b1 := obj_cell hbox 1 _ rfl
    have b2 := obj_cell hbox 2 _ rfl
    have f0 := obj_free hbox 0
    have f1 := obj_free hbox 1
    have f2 := obj_free hbox 2
    have H1 := Lib.hid (HZ.out.trans (hb1.mono HZ.out.size))
    clear hb1 hbox ho
    go_wp2
    refine bodyPost_ret (v := .tuple #[.agg #[.int .i64 0, .bool false, .bool false], .int .i64 5]) (by simp [results, Tryd.results13, go_sem, *]) rfl ⟨rfl, ?_⟩
    exact below_set3' H1.out (Nat.le_refl _) _ _ _
  · have he : e = 0 := by omega
    subst he
    obtain ⟨x, y, z, rfl⟩ := three_of (pa_lens hp)
    obtain ⟨k, e1, hn⟩ : ∃ k e, nr x = (k, e) := ⟨_, _, rfl⟩
    obtain ⟨c, e2, hc⟩ : ∃ k e, rb y = (k, e) := ⟨_, _, rfl⟩
    obtain ⟨r, e3, hr⟩ : ∃ k e, rb z = (k, e) := ⟨_, _, rfl⟩
    have hv : peR s = if peP k c r = (s, 0) then ((k, c, r), 0) else ((0, false, false), 5) := by
      unfold peR
      rw [hp, if_neg (by simp)]
      simp only [List.getD_cons_zero, List.getD_cons_succ, hn, hc, hr]
    have HN := Lib.hid (fun w' => nread_c ⟨x.toArray⟩ k e1 hn w')
    have HC := Lib.hid (fun w' => readBool_c ⟨y.toArray⟩ c e2 hc w')
    have HR := Lib.hid (fun w' => readBool_c ⟨z.toArray⟩ r e3 hr w')
    obtain ⟨X, E, hq⟩ : ∃ X E, peP k c r = (X, E) := ⟨_, _, rfl⟩
    have HQ := Lib.hid (fun w' => cpe_any k c r w')
    rw [hq] at HQ hv
    have hways : (((E : Int) != 0) = true ∧ peR s = ((0, false, false), 5)) ∨ (((E : Int) != 0) = false ∧ (X == s) = false ∧ peR s = ((0, false, false), 5)) ∨ (((E : Int) != 0) = false ∧ (X == s) = true ∧ peR s = ((k, c, r), 0)) := by
      by_cases hE : E = 0
      · refine .inr ?_
        by_cases hX : X = s
        · exact .inr ⟨by simp [hE], by simp [hX], by rw [hv, if_pos (by rw [hE, hX])]⟩
        · exact .inl ⟨by simp [hE], by simp [hX], by rw [hv, if_neg (by simp [hX])]⟩
      · exact .inl ⟨by rw [bne_iff_ne]; omega, by rw [hv, if_neg (by simp [hE])]⟩
    clear hp hn hc hr hq hv
    rcases hways with ⟨q1, hv⟩ | ⟨q1, q2, hv⟩ | ⟨q1, q2, hv⟩
    all_goals
      rw [hv]
      clear hv
      go_enter Tryd.func13, Tryd.ntmps13
      go_wp2_with fail
      refine (HP.out _ _ (by simp)).mono ?_
      rintro en w1 ⟨v, rfl, ho, hb1⟩
      obtain ⟨g, cp, rfl, hg, c0, c1, c2⟩ := own_three ho
      have hb1 := ((Below.refl _ _).alloc (Nat.le_refl _) _).trans (hb1.mono (Nat.le_succ _))
      have hbox := obj_below (heap_alloc_new w _) hb1 (by simp)
      have hxl := obj_lt hbox
      have H1 := Lib.hid (HZ.out.trans (hb1.mono HZ.out.size))
      have HBx := Lib.hid hbox
      clear hb1 hbox ho
      go_wp2_with fail
      refine (HN.out _).mono ?_
      rintro en w2 ⟨rfl, rfl⟩
      go_wp2_with fail
      refine (HC.out _).mono ?_
      rintro en w2 ⟨rfl, rfl⟩
      go_wp2_with fail
      refine (HR.out _).mono ?_
      rintro en w2 ⟨rfl, rfl⟩
      clear c0 c1 c2
      go_wp2_with fail
      refine (HQ.out _).mono ?_
      rintro en w3 ⟨rfl, hb3⟩
      have hbp := obj_below (heap_alloc_new w1 _) hb3 (by simp)
      have p0 := obj_cell hbp 0 _ rfl
      have p1 := obj_cell hbp 1 _ rfl
      have p2 := obj_cell hbp 2 _ rfl
      have hb3 := ((Below.refl _ w1).alloc (Nat.le_refl _) _).trans (hb3.mono (by simp))
      have hbox := obj_below HBx.out hb3 hxl
      have b0 := obj_cell hbox 0 _ rfl
      have b1 := obj_cell hbox 1 _ rfl
      have b2 := obj_cell hbox 2 _ rfl
      have f0 := obj_free hbox 0
      have f1 := obj_free hbox 1
      have f2 := obj_free hbox 2
      have H3 := Lib.hid (H1.out.trans (hb3.mono H1.out.size))
      clear hb3 hbox hbp
      go_wp2
      first
        | (refine bodyPost_ret (v := .tuple #[.agg #[.int .i64 0, .bool false, .bool false], .int .i64 5]) (by simp [results, Tryd.results13, go_sem, *]) rfl ⟨rfl, ?_⟩; exact below_set3' H3.out (Nat.le_refl _) _ _ _)
        | (refine bodyPost_ret (v := .tuple #[.agg #[.int .i64 k, .bool c, .bool r], .int .i64 0]) (by simp [results, Tryd.results13, go_sem, *]) rfl ⟨rfl, ?_⟩; exact below_set3' H3.out (Nat.le_refl _) _ _ _)
end Go.Proofs.YtlnfbjgadcifkaaDoor
