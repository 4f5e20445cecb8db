/- Whether a rule's names and type may be; what covers what. -/
import Derived.Test.YtbihhdkmmlldnaaGreatDoorAcA
namespace Go.Proofs.YtbihhdkmmlldnaaGreatDoor
set_option linter.unusedSimpArgs false
set_option linter.unusedVariables false
open Go Go.RowKit Go.Proofs.BerK Go.Proofs.MemK Go.Proofs.UtfK

theorem ck_ty (s : List UInt8) : ckD [[(s, [120])]] = if tyL s = true then 0 else 5 := by
  have h : prL [(s, [120])] = tyL s := by simp [prL, pgL, avOk, twL]
  unfold ckD
  rw [if_neg (by simp), List.all_cons, List.all_nil, Bool.and_true, h]
theorem dep_nm (s : List UInt8) : (∃ d : Int, depL s = d ∧ (0 : Int) ≤ d ∧ nmOk s = true) ∨ (∃ d : Int, depL s = d ∧ ¬ (0 : Int) ≤ d ∧ nmOk s = false) := by
  unfold depL nmOk
  cases h : nrD s with
  | none => exact .inr ⟨_, rfl, by decide, rfl⟩
  | some D => exact .inl ⟨_, rfl, by simp, rfl⟩
set_option maxRecDepth 100000 in
theorem covers_any (a b : List UInt8) (w : World) : Calls Tryz.prog 33 #[.string ⟨a.toArray⟩, .string ⟨b.toArray⟩] w (PureB (a == [42] || a == b) w) := by
  cases h1 : (a == [42]) <;> cases h2 : (a == b)
  all_goals
    go_enter Tryz.func33, Tryz.ntmps33
    go_wp2
    go_ret
    exact pureB_mk rfl
set_option maxRecDepth 100000 in
theorem anm_any (s : List UInt8) (w : World) (he : ErrOk w) : Calls Tryz.prog 45 #[.string ⟨s.toArray⟩] w (BoolPost (nmOk s) w) := by
  have HD := Lib.hid (depth_any s w he)
  rcases dep_nm s with ⟨d, h1, q1, h2⟩ | ⟨d, h1, q1, h2⟩
  all_goals
    rw [h1] at HD
    rw [h2]
    clear h1 h2 he
    go_enter Tryz.func45, Tryz.ntmps45
    go_wp2_with fail
    refine HD.out.mono ?_
    rintro e w1 ⟨rfl, hb⟩
    have HB := Lib.hid hb
    clear hb
    go_wp2
    go_ret
    exact boolPost_mk (by simp [q1]) HB.out
/-- A name of one part of one pair, as a literal lays it. -/
theorem dnAt_lit (s v : List UInt8) (w : World) (e1 e2 : TypeId) : DnAt ((w.alloc (.cells #[.string ⟨s.toArray⟩, .string ⟨v.toArray⟩] e1)).alloc (.cells #[.slice (some ⟨w.heap.size, 0, none⟩) 1 1] e2)) (.slice (some ⟨w.heap.size + 1, 0, none⟩) 1 1) [[(s, v)]] := by
  refine ⟨_, 1, rfl, by simp, fun i hi => ?_⟩
  obtain rfl : i = 0 := by simpa using hi
  refine ⟨w.heap.size + 1, 0, .slice (some ⟨w.heap.size, 0, none⟩) 1 1, rfl, by simp, ?_, ?_⟩
  · simp
  · refine ⟨_, 1, rfl, by simp, fun j hj => ?_⟩
    obtain rfl : j = 0 := by simpa using hj
    have hb : Below (w.alloc (.cells #[.string ⟨s.toArray⟩, .string ⟨v.toArray⟩] e1)).heap.size (w.alloc (.cells #[.string ⟨s.toArray⟩, .string ⟨v.toArray⟩] e1)) ((w.alloc (.cells #[.string ⟨s.toArray⟩, .string ⟨v.toArray⟩] e1)).alloc (.cells #[.slice (some ⟨w.heap.size, 0, none⟩) 1 1] e2)) := (Below.refl _ _).alloc (Nat.le_refl _) _
    have hl : w.heap.size < (w.alloc (.cells #[.string ⟨s.toArray⟩, .string ⟨v.toArray⟩] e1)).heap.size := by simp
    have hg : (w.alloc (.cells #[.string ⟨s.toArray⟩, .string ⟨v.toArray⟩] e1)).heap[w.heap.size]? = some (.cells #[.string ⟨s.toArray⟩, .string ⟨v.toArray⟩] e1 (0, 0)) := heap_alloc_new w _
    refine ⟨w.heap.size, 0, rfl, by simp; omega, ?_, ?_⟩
    · exact (hb.cell (p := ⟨w.heap.size, _, none⟩) hl).trans (obj_cell hg 0 _ rfl)
    · exact (hb.cell (p := ⟨w.heap.size, _, none⟩) hl).trans (obj_cell hg 1 _ rfl)
set_option maxHeartbeats 1600000 in
set_option maxRecDepth 100000 in
theorem aty_any (s : List UInt8) (w : World) : Calls Tryz.prog 46 #[.string ⟨s.toArray⟩] w (BoolPost (tyL s) w) := by
  have HC := Lib.hid (fun w' v (h : DnAt w' v [[(s, [120])]]) => dcheck_any v [[(s, [120])]] w' h)
  have HK := Lib.hid (ck_ty s)
  cases ht : tyL s
  all_goals
    rw [ht] at HK
    have HN := Lib.hid (show ckD [[(s, [120])]] = _ from HK.out)
    simp only [if_true, Bool.false_eq_true, if_false] at HN
    rw [HN.out] at HC
    clear ht
    go_enter Tryz.func46, Tryz.ntmps46
    go_wp2_with fail
    refine (HC.out _ _ (dnAt_lit s [120] w _ _)).mono ?_
    rintro e w1 ⟨rfl, hb⟩
    have HB := Lib.hid ((((Below.refl _ w).alloc (Nat.le_refl _) _).alloc (by simp) _).trans (hb.mono (by simp; omega)))
    clear hb
    go_wp2
    go_ret
    exact boolPost_mk rfl HB.out

set_option maxHeartbeats 6400000 in
set_option maxRecDepth 100000 in
theorem anamed_any (a b c : List UInt8) (n : Int) (d : Bool) (w : World) (he : ErrOk w) : Calls Tryz.prog 29 #[.agg #[.string ⟨a.toArray⟩, .string ⟨b.toArray⟩, .string ⟨c.toArray⟩, .int .i64 n, .bool d]] w (BoolPost (rlOk (a, b, c, n, d)) w) := by
  obtain ⟨W, hW⟩ : ∃ W, w.alloc (.cells #[.string ⟨a.toArray⟩, .string ⟨b.toArray⟩, .string ⟨c.toArray⟩, .int .i64 n, .bool d] 34) = W := ⟨_, rfl⟩
  have hb0 : Below w.heap.size w W := by rw [← hW]; exact (Below.refl _ w).alloc (Nat.le_refl _) _
  have hg : W.heap[w.heap.size]? = some (.cells #[.string ⟨a.toArray⟩, .string ⟨b.toArray⟩, .string ⟨c.toArray⟩, .int .i64 n, .bool d] 34 (0, 0)) := by rw [← hW]; exact heap_alloc_new w _
  have d0 := obj_cell hg 0 _ rfl
  have d1 := obj_cell hg 1 _ rfl
  have d2 := obj_cell hg 2 _ rfl
  have hz : w.heap.size < W.heap.size := obj_lt hg
  have heW := errOk_below he hb0
  have HW := Lib.hid (fun w' (hb : Below W.heap.size W w') => anm_any a w' (errOk_below heW hb))
  have HB := Lib.hid (fun w' (hb : Below W.heap.size W w') => anm_any b w' (errOk_below heW hb))
  have HT := Lib.hid (fun w' (hb : Below W.heap.size W w') => aty_any c w')
  have HB0 := Lib.hid hb0
  have hbW : Below W.heap.size W W := Below.refl _ W
  have HR : Hid (rlOk (a, b, c, n, d) = ((a == [42] || nmOk a) && nmOk b && (c == [42] || tyL c))) := Lib.hid rfl
  obtain ⟨n1, e1⟩ : ∃ x, nmOk a = x := ⟨_, rfl⟩
  obtain ⟨n2, e2⟩ : ∃ x, nmOk b = x := ⟨_, rfl⟩
  obtain ⟨n3, e3⟩ : ∃ x, tyL c = x := ⟨_, rfl⟩
  rw [e1] at HW
  rw [e2] at HB
  rw [e3] at HT
  rw [e1, e2, e3] at HR
  have hr := HR.out
  have hways : ((a == [42]) = false ∧ n1 = false) ∨ ((a == [42]) = true ∧ n2 = false) ∨ ((a == [42]) = false ∧ n1 = true ∧ n2 = false) ∨ ((a == [42]) = true ∧ n2 = true ∧ (c == [42]) = true) ∨ ((a == [42]) = false ∧ n1 = true ∧ n2 = true ∧ (c == [42]) = true) ∨ ((a == [42]) = true ∧ n2 = true ∧ (c == [42]) = false) ∨ ((a == [42]) = false ∧ n1 = true ∧ n2 = true ∧ (c == [42]) = false) := by
    cases (a == [42]) <;> cases n1 <;> cases n2 <;> cases (c == [42]) <;> simp
  clear he heW hb0 hg e1 e2 e3 hr
  rcases hways with ⟨p1, rfl⟩ | ⟨p1, rfl⟩ | ⟨p1, rfl, rfl⟩ | ⟨p1, rfl, p2⟩ | ⟨p1, rfl, rfl, p2⟩ | ⟨p1, rfl, p2⟩ | ⟨p1, rfl, rfl, p2⟩
  all_goals
    go_enter Tryz.func29, Tryz.ntmps29
    go_wp2_with ((first | with_reducible refine (HW.out _ hbW).mono ?_ | with_reducible refine (HB.out _ hbW).mono ?_ | with_reducible refine (HT.out _ hbW).mono ?_); rintro en w5 ⟨rfl, hb5⟩; have hbW := hbW.trans (hb5.mono hbW.size); have h0 := (hbW.cell (p := ⟨w.heap.size, 0, none⟩) hz).trans d0; have h1 := (hbW.cell (p := ⟨w.heap.size, 1, none⟩) hz).trans d1; have h2 := (hbW.cell (p := ⟨w.heap.size, 2, none⟩) hz).trans d2)
    go_ret
    refine boolPost_mk ?_ (HB0.out.trans (hbW.mono HB0.out.size))
    rw [HR.out, p1]
    first | rfl | (rw [p2]; rfl) | simp
end Go.Proofs.YtbihhdkmmlldnaaGreatDoor
