/- The document's Clean: attributes in order, each type once. The code's Clean. -/
import Derived.Test.YtbmnpjkcomcboaaGreatDoorEnQT
import Derived.Test.YtbmnpjkcomcboaaGreatDoorEnFI
import Derived.Test.YtbmnpjkcomcboaaGreatDoorDqC
import Derived.Test.YtbmnpjkcomcboaaGreatDoorEnJN
namespace Go.Proofs.YtbmnpjkcomcboaaGreatDoor
set_option linter.unusedSimpArgs false
set_option linter.unusedVariables false
open Go Go.RowKit Go.Proofs.BerK Go.Proofs.MemK Go.Proofs.UtfK

def EnPost10 (dn : List UInt8) (L : List Atr) (w : World) (en : Ending) (w' : World) : Prop := ∃ v, en = .returned (.agg #[.string ⟨dn.toArray⟩, v]) ∧ PaAt w' v L ∧ Below w.heap.size w w'
theorem paAt_slice {w : World} {v : Value} {L : List Atr} (h : PaAt w v L) : ∃ a c, v = .slice a L.length c := by
  obtain ⟨_, _, _, h⟩ := h
  exact ownsRow_slice h
theorem set2_e {w : World} {g : Nat} {a b : Value} {t : TypeId} (h : w.heap[g]? = some (.cells #[a, b] t (0, 0))) (c d : Value) : ((w.setCell ⟨g, 0, none⟩ c).setCell ⟨g, 1, none⟩ d).heap[g]? = some (.cells #[c, d] t (0, 0)) := by simpa using obj_set (obj_set h 0 c) 1 d
theorem below_e2 {B : Nat} {a w : World} (h : Below B a w) {g : Nat} (hg : B ≤ g) (x y : Value) : Below B a ((w.setCell ⟨g, 0, none⟩ x).setCell ⟨g, 1, none⟩ y) := (h.setCell (p := ⟨g, 0, none⟩) hg x).setCell (p := ⟨g, 1, none⟩) hg y
theorem own_set2 {w : World} {B s n rb : Nat} {e t : TypeId} {v : Value} {xs : List Value} {cs : Array Value} (h : w.ownsRow B e s v n xs) (hx : w.heap[rb]? = some (.cells cs t (0, 0))) (hne : e ≠ t) (x y : Value) : ((w.setCell ⟨rb, 0, none⟩ x).setCell ⟨rb, 1, none⟩ y).ownsRow B e s v n xs := by
  refine ownsRow_chg (S := fun k => k = rb) h (((Chg.refl (fun k => k = rb) w).setCell (p := ⟨rb, 0, none⟩) (fun _ => rfl) x).setCell (p := ⟨rb, 1, none⟩) (fun _ => rfl) y) (fun k hk e2 => ?_)
  have e2 : k = rb := e2
  subst e2
  rcases h.2 with ⟨rfl, _⟩ | ⟨g, cap, cur, rfl, _, hg, _⟩
  · cases hk
  · have e1 : g = k := by injection hk
    subst e1
    rw [hg] at hx
    injection hx with hx
    injection hx with _ hx
    exact hne hx
end Go.Proofs.YtbmnpjkcomcboaaGreatDoor
namespace Go.Proofs.YtbmnpjkcomcboaaGreatDoor
set_option linter.unusedSimpArgs false
set_option linter.unusedVariables false
open Go Go.RowKit Go.Proofs.BerK Go.Proofs.MemK Go.Proofs.UtfK

def EnPostC (dn : List UInt8) (L : List Atr) (w : World) (en : Ending) (w' : World) : Prop := ∃ v Lq, en = .returned (.agg #[.string ⟨dn.toArray⟩, v]) ∧ AtOk w' Lq L ∧ w'.ownsRow w.heap.size 81 2 v L.length (atcs Lq) ∧ Below w.heap.size w w'
theorem atOk_set2 {w : World} {rb : Nat} {Lq : List (List UInt8 × Value)} {L : List Atr} {t : TypeId} {cs : Array Value} (h : AtOk w Lq L) (hx : w.heap[rb]? = some (.cells cs t (0, 0))) (h2 : 9 ≠ t) (x y : Value) : AtOk ((w.setCell ⟨rb, 0, none⟩ x).setCell ⟨rb, 1, none⟩ y) Lq L :=
  ⟨h.1, fun i i1 i2 => ⟨(h.2 i i1 i2).1, by obtain ⟨_, B2, hB⟩ := h.2 i i1 i2; exact ⟨B2, own_set2 hB hx h2 x y⟩⟩⟩
theorem eaAt_slice {w : World} {v : Value} {A : List Atr} (h : EaAt w v A) : ∃ a c, v = .slice a A.length c := by
  obtain ⟨_, a, c, e, _⟩ := h
  exact ⟨a, c, e⟩
set_option maxHeartbeats 1600000 in
set_option maxRecDepth 100000 in
theorem eclean_any (A : List Atr) (dn : List UInt8) (av : Value) (w : World) (h : EaAt w av A) (hf : FewE A) : Calls Tryz.prog 44 #[.agg #[.string ⟨dn.toArray⟩, av]] w (EnPostC dn (clA A) w) := by
  have HA := Lib.hid h
  obtain ⟨a, c, rfl⟩ := eaAt_slice h
  obtain ⟨W1, hW1⟩ : ∃ W1, (w.alloc (.cells #[.string ⟨dn.toArray⟩, .slice a A.length c] 39)).alloc (.cells #[.string ⟨#[]⟩, .slice none 0 0] 39) = W1 := ⟨_, rfl⟩
  obtain ⟨x0, x1, hb1, hz1⟩ := boxes10 hW1
  have HC := Lib.hid (fun w' (hb : Below W1.heap.size W1 w') => clean_any A _ w' (eaAt_below (eaAt_below h hb1) hb) hf)
  obtain ⟨p0, p1⟩ := obj2s x0
  obtain ⟨r0, r1⟩ := obj2s x1
  have g0 := obj_free x1 0
  have g1 := obj_free x1 1
  have hne : w.heap.size ≠ w.heap.size + 1 := by omega
  have z0 : w.heap.size < W1.heap.size := by omega
  have z1 : w.heap.size + 1 < W1.heap.size := by omega
  have HX := Lib.hid (And.intro x1 (And.intro hb1 hz1))
  have HW1 := Lib.hid hW1
  obtain ⟨n, hn⟩ : ∃ n, A.length = n := ⟨_, rfl⟩
  rw [hn] at p1 HC HW1 ⊢
  obtain ⟨R, hR⟩ : ∃ R, clA A = R := ⟨_, rfl⟩
  rw [hR] at HC ⊢
  clear h hf x0 x1 hb1 hz1 hW1 hn hR HA
  go_enter Tryz.func44, Tryz.ntmps44
  go_wp2_with fail
  try rw [HW1.out]
  go_region_held3 (fun w' => w'.cell? ⟨w.heap.size, 0, none⟩ = some (.string ⟨dn.toArray⟩) ∧ w'.cell? ⟨w.heap.size, 1, none⟩ = some (.slice a n c)) (first | exact ⟨d0, d1⟩ | exact ⟨p0, p1⟩ | exact ⟨(cell_other2 hne _ _ _ _ _).trans d0, (cell_other2 hne _ _ _ _ _).trans d1⟩ | go_keep)
    (first | (go_at_call 62; (with_reducible refine (HC.out _ ((Below.refl _ W1).drew)).mono ?_); rintro en w5 ⟨v, Lq, rfl, hok, hr, hb5⟩; obtain ⟨va, vc, rfl⟩ := ownsRow_slice hr; have hbW : Below W1.heap.size W1 w5 := (Below.refl _ W1).drew.trans hb5; have d0 := (hbW.cell (p := ⟨w.heap.size, 0, none⟩) z0).trans p0; have d1 := (hbW.cell (p := ⟨w.heap.size, 1, none⟩) z0).trans p1; have s0 := (hbW.cell (p := ⟨w.heap.size + 1, 0, none⟩) z1).trans r0; have s1 := (hbW.cell (p := ⟨w.heap.size + 1, 1, none⟩) z1).trans r1; have k0 := (hbW.frozen (p := ⟨w.heap.size + 1, 0, none⟩) z1).trans g0; have k1 := (hbW.frozen (p := ⟨w.heap.size + 1, 1, none⟩) z1).trans g1; have HR := Lib.hid (And.intro hok (And.intro hr hbW)); clear hok hr hb5 hbW))
  all_goals
    have hx5 := obj_below HX.out.1 HR.out.2.2 (by omega)
    have HY := Lib.hid hx5
    clear hx5 d0 d1
    go_wp2
    obtain ⟨j0, j1⟩ := obj2s (set2_e HY.out (.string ⟨dn.toArray⟩) (.slice va R.length vc))
    refine bodyPost_ret (v := .agg #[.string ⟨dn.toArray⟩, .slice va R.length vc]) (by simp [results, Tryz.results44, go_sem, *]) rfl ?_
    exact ⟨_, Lq, rfl, atOk_set2 HR.out.1 HY.out (by decide) _ _, own_set2 (ownsRow_base HR.out.2.1 (by show w.heap.size ≤ W1.heap.size; omega)) HY.out (by decide) _ _, below_e2 (HX.out.2.1.trans (HR.out.2.2.mono HX.out.2.1.size)) (by omega) _ _⟩
end Go.Proofs.YtbmnpjkcomcboaaGreatDoor
