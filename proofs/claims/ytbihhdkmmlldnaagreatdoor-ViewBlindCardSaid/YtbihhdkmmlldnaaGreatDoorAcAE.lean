/- Rules in memory. Whether a rule's names and type may be; what covers what. Whether rules may be: the code's Check. The first rule that fits, and whether it is given: the code's First, Allowed. -/
import Derived.Test.YtbihhdkmmlldnaaGreatDoorAcMN
import Derived.Test.YtbihhdkmmlldnaaGreatDoorDqC
import Derived.Test.YtbihhdkmmlldnaaGreatDoorGenB
import Derived.Test.YtbihhdkmmlldnaaGreatDoorPlAC
namespace Go.Proofs.YtbihhdkmmlldnaaGreatDoor
set_option linter.unusedSimpArgs false
set_option linter.unusedVariables false
open Go Go.RowKit Go.Proofs.BerK Go.Proofs.MemK Go.Proofs.UtfK

/-- A rule's cells, and a rule by itself. -/
def rlC (r : Rl) : List Value := [.string ⟨r.1.toArray⟩, .string ⟨r.2.1.toArray⟩, .string ⟨r.2.2.1.toArray⟩, .int .i64 r.2.2.2.1, .bool r.2.2.2.2]
def rlV (r : Rl) : Value := .agg (rlC r).toArray
/-- Rules lie in memory, to be read. -/
def RlAt (w : World) (v : Value) (L : List Rl) : Prop :=
  ∃ a c, v = .slice a L.length c ∧ ∀ i (hi : i < L.length), ∃ g o, a = some ⟨g, o, none⟩ ∧ g < w.heap.size ∧ ∀ j, j < 5 → w.cell? ⟨g, o + i * 5 + j, none⟩ = (rlC L[i])[j]?
theorem rlAt_below {w w' : World} {v : Value} {L : List Rl} (h : RlAt w v L) (hb : Below w.heap.size w w') : RlAt w' v L := by
  obtain ⟨a, c, rfl, h⟩ := h
  refine ⟨a, c, rfl, fun i hi => ?_⟩
  obtain ⟨g, o, h1, h2, h3⟩ := h i hi
  exact ⟨g, o, h1, Nat.lt_of_lt_of_le h2 hb.size, fun j hj => (hb.cell (p := ⟨g, _, none⟩) h2).trans (h3 j hj)⟩
theorem rlAt_heap {w w' : World} {v : Value} {L : List Rl} (h : RlAt w v L) (hh : w'.heap = w.heap) : RlAt w' v L := by
  obtain ⟨a, c, rfl, h⟩ := h
  refine ⟨a, c, rfl, fun i hi => ?_⟩
  obtain ⟨g, o, h1, h2, h3⟩ := h i hi
  refine ⟨g, o, h1, by rw [hh]; exact h2, fun j hj => ?_⟩
  rw [← h3 j hj]; unfold World.cell?; rw [hh]
/-- The five cells of a rule, one by one. -/
theorem rlAt_five {w : World} {a : Option Addr} {n c : Nat} {L : List Rl} (h : RlAt w (.slice a n c) L) (i : Nat) (hi : i < L.length) : ∃ g o, a = some ⟨g, o, none⟩ ∧ g < w.heap.size ∧ w.cell? ⟨g, o + i * 5, none⟩ = some (.string ⟨L[i].1.toArray⟩) ∧ w.cell? ⟨g, o + i * 5 + 1, none⟩ = some (.string ⟨L[i].2.1.toArray⟩) ∧ w.cell? ⟨g, o + i * 5 + 2, none⟩ = some (.string ⟨L[i].2.2.1.toArray⟩) ∧ w.cell? ⟨g, o + i * 5 + 3, none⟩ = some (.int .i64 L[i].2.2.2.1) ∧ w.cell? ⟨g, o + i * 5 + 4, none⟩ = some (.bool L[i].2.2.2.2) := by
  obtain ⟨a', c', hv, h⟩ := h
  injection hv with h1 h2 h3
  subst h1 h3
  obtain ⟨g, o, h1, h2, h3⟩ := h i hi
  exact ⟨g, o, h1, h2, h3 0 (by omega), h3 1 (by omega), h3 2 (by omega), h3 3 (by omega), h3 4 (by omega)⟩
theorem rlAt_nil (w : World) (a : Option Addr) (c : Nat) : RlAt w (.slice a 0 c) [] := ⟨a, c, rfl, fun i hi => by simp at hi⟩
theorem rlAt_cap {w : World} {a : Option Addr} {n c : Nat} {L : List Rl} (h : RlAt w (.slice a n c) L) (c' : Nat) : RlAt w (.slice a n c') L := by
  obtain ⟨a', c0, hv, h⟩ := h
  injection hv with h1 h2 h3
  subst h1 h2 h3
  exact ⟨a, c', rfl, h⟩
/-- Rules' cells in a row. -/
def rlCs (L : List Rl) : List Value := L.flatMap rlC
theorem rlCs_len (L : List Rl) : (rlCs L).length = L.length * 5 := by
  induction L with
  | nil => rfl
  | cons r L ih => rw [rlCs, List.flatMap_cons, List.length_append]; unfold rlCs at ih; rw [ih, List.length_cons]; simp [rlC]; omega
theorem rlCs_at (L : List Rl) : ∀ (i : Nat) (hi : i < L.length) (j : Nat), j < 5 → (rlCs L)[i * 5 + j]? = (rlC L[i])[j]? := by
  induction L with
  | nil => intro i hi; simp at hi
  | cons r L ih =>
    intro i hi j hj
    rw [rlCs, List.flatMap_cons]
    have hr : (rlC r).length = 5 := rfl
    cases i with
    | zero => rw [List.getElem?_append_left (by rw [hr]; omega), Nat.zero_mul, Nat.zero_add]; rfl
    | succ i =>
      rw [List.getElem?_append_right (by rw [hr]; omega), hr, show (i + 1) * 5 + j - 5 = i * 5 + j by omega]
      exact ih i (by simpa using hi) j hj
theorem rlCs_app (L M : List Rl) : rlCs (L ++ M) = rlCs L ++ rlCs M := by simp [rlCs]
theorem rlCs_one (L : List Rl) : ∀ u ∈ rlCs L, u.oneCell' = true := by
  intro u hu
  obtain ⟨r, _, hr⟩ := List.mem_flatMap.1 hu
  simp only [rlC, List.mem_cons, List.not_mem_nil, or_false] at hr
  rcases hr with rfl | rfl | rfl | rfl | rfl <;> rfl
/-- A row of the call's own is to be read. -/
theorem rlAt_owns {w : World} {B : Nat} {e : TypeId} {v : Value} {L : List Rl} (h : w.ownsRow B e 5 v L.length (rlCs L)) : RlAt w v L := by
  rcases h.2 with ⟨rfl, h0⟩ | ⟨g, cap, cur, rfl, _, hg, _⟩
  · exact ⟨none, 0, by rw [h0], fun i hi => by omega⟩
  · refine ⟨_, cap, rfl, fun i hi => ⟨g, 0, rfl, (Array.getElem?_eq_some_iff.1 hg).1, fun j hj => ?_⟩⟩
    rw [Nat.zero_add, h.cellAt (i * 5 + j) (by omega), rlCs_at L i hi j hj]
/-- A block of rules is to be read. -/
theorem rlAt_block {w : World} {b : Nat} {e : TypeId} {m : Nat × Nat} {L : List Rl} (c : Nat) (h : w.heap[b]? = some (.cells (rlCs L).toArray e m)) : RlAt w (.slice (some ⟨b, 0, none⟩) L.length c) L := by
  refine ⟨_, c, rfl, fun i hi => ⟨b, 0, rfl, (Array.getElem?_eq_some_iff.1 h).1, fun j hj => ?_⟩⟩
  rw [Nat.zero_add, ← rlCs_at L i hi j hj]
  simp [World.cell?, h]
end Go.Proofs.YtbihhdkmmlldnaaGreatDoor
namespace Go.Proofs.YtbihhdkmmlldnaaGreatDoor
set_option linter.unusedSimpArgs false
set_option linter.unusedVariables false
open Go Go.RowKit Go.Proofs.BerK Go.Proofs.MemK Go.Proofs.UtfK

theorem ck_ty (s : List UInt8) : ckD [[(s, [120])]] = if tyL s = true then 0 else 5 := by
  have h : prL [(s, [120])] = tyL s := by simp [prL, pgL, avOk, twL]
  unfold ckD
  rw [if_neg (by simp), List.all_cons, List.all_nil, Bool.and_true, h]
theorem dep_nm (s : List UInt8) : (∃ d : Int, depL s = d ∧ (0 : Int) ≤ d ∧ nrOk s = true) ∨ (∃ d : Int, depL s = d ∧ ¬ (0 : Int) ≤ d ∧ nrOk s = false) := by
  unfold depL nrOk
  cases h : nrD s with
  | none => exact .inr ⟨_, rfl, by decide, rfl⟩
  | some D => exact .inl ⟨_, rfl, by simp, rfl⟩
set_option maxRecDepth 100000 in
theorem covers_any (a b : List UInt8) (w : World) : Calls Tryz.prog 33 #[.string ⟨a.toArray⟩, .string ⟨b.toArray⟩] w (PureB (a == [42] || a == b) w) := by
  cases h1 : (a == [42]) <;> cases h2 : (a == b)
  all_goals
    go_enter Tryz.func33, Tryz.ntmps33
    go_wp2
    go_ret
    exact pureB_mk rfl
set_option maxRecDepth 100000 in
theorem anm_any (s : List UInt8) (w : World) (he : ErrOk w) : Calls Tryz.prog 45 #[.string ⟨s.toArray⟩] w (BoolPost (nrOk s) w) := by
  have HD := Lib.hid (depth_any s w he)
  rcases dep_nm s with ⟨d, h1, q1, h2⟩ | ⟨d, h1, q1, h2⟩
  all_goals
    rw [h1] at HD
    rw [h2]
    clear h1 h2 he
    go_enter Tryz.func45, Tryz.ntmps45
    go_wp2_with fail
    refine HD.out.mono ?_
    rintro e w1 ⟨rfl, hb⟩
    have HB := Lib.hid hb
    clear hb
    go_wp2
    go_ret
    exact boolPost_mk (by simp [q1]) HB.out
/-- A name of one part of one pair, as a literal lays it. -/
theorem dnAt_lit (s v : List UInt8) (w : World) (e1 e2 : TypeId) : DnAt ((w.alloc (.cells #[.string ⟨s.toArray⟩, .string ⟨v.toArray⟩] e1)).alloc (.cells #[.slice (some ⟨w.heap.size, 0, none⟩) 1 1] e2)) (.slice (some ⟨w.heap.size + 1, 0, none⟩) 1 1) [[(s, v)]] := by
  refine ⟨_, 1, rfl, by simp, fun i hi => ?_⟩
  obtain rfl : i = 0 := by simpa using hi
  refine ⟨w.heap.size + 1, 0, .slice (some ⟨w.heap.size, 0, none⟩) 1 1, rfl, by simp, ?_, ?_⟩
  · simp
  · refine ⟨_, 1, rfl, by simp, fun j hj => ?_⟩
    obtain rfl : j = 0 := by simpa using hj
    have hb : Below (w.alloc (.cells #[.string ⟨s.toArray⟩, .string ⟨v.toArray⟩] e1)).heap.size (w.alloc (.cells #[.string ⟨s.toArray⟩, .string ⟨v.toArray⟩] e1)) ((w.alloc (.cells #[.string ⟨s.toArray⟩, .string ⟨v.toArray⟩] e1)).alloc (.cells #[.slice (some ⟨w.heap.size, 0, none⟩) 1 1] e2)) := (Below.refl _ _).alloc (Nat.le_refl _) _
    have hl : w.heap.size < (w.alloc (.cells #[.string ⟨s.toArray⟩, .string ⟨v.toArray⟩] e1)).heap.size := by simp
    have hg : (w.alloc (.cells #[.string ⟨s.toArray⟩, .string ⟨v.toArray⟩] e1)).heap[w.heap.size]? = some (.cells #[.string ⟨s.toArray⟩, .string ⟨v.toArray⟩] e1 (0, 0)) := heap_alloc_new w _
    refine ⟨w.heap.size, 0, rfl, by simp; omega, ?_, ?_⟩
    · exact (hb.cell (p := ⟨w.heap.size, _, none⟩) hl).trans (obj_cell hg 0 _ rfl)
    · exact (hb.cell (p := ⟨w.heap.size, _, none⟩) hl).trans (obj_cell hg 1 _ rfl)
set_option maxHeartbeats 1600000 in
set_option maxRecDepth 100000 in
theorem aty_any (s : List UInt8) (w : World) : Calls Tryz.prog 46 #[.string ⟨s.toArray⟩] w (BoolPost (tyL s) w) := by
  have HC := Lib.hid (fun w' v (h : DnAt w' v [[(s, [120])]]) => dcheck_any v [[(s, [120])]] w' h)
  have HK := Lib.hid (ck_ty s)
  cases ht : tyL s
  all_goals
    rw [ht] at HK
    have HN := Lib.hid (show ckD [[(s, [120])]] = _ from HK.out)
    simp only [if_true, Bool.false_eq_true, if_false] at HN
    rw [HN.out] at HC
    clear ht
    go_enter Tryz.func46, Tryz.ntmps46
    go_wp2_with fail
    refine (HC.out _ _ (dnAt_lit s [120] w _ _)).mono ?_
    rintro e w1 ⟨rfl, hb⟩
    have HB := Lib.hid ((((Below.refl _ w).alloc (Nat.le_refl _) _).alloc (by simp) _).trans (hb.mono (by simp; omega)))
    clear hb
    go_wp2
    go_ret
    exact boolPost_mk rfl HB.out

set_option maxHeartbeats 6400000 in
set_option maxRecDepth 100000 in
theorem anamed_any (a b c : List UInt8) (n : Int) (d : Bool) (w : World) (he : ErrOk w) : Calls Tryz.prog 29 #[.agg #[.string ⟨a.toArray⟩, .string ⟨b.toArray⟩, .string ⟨c.toArray⟩, .int .i64 n, .bool d]] w (BoolPost (rlOk (a, b, c, n, d)) w) := by
  obtain ⟨W, hW⟩ : ∃ W, w.alloc (.cells #[.string ⟨a.toArray⟩, .string ⟨b.toArray⟩, .string ⟨c.toArray⟩, .int .i64 n, .bool d] 34) = W := ⟨_, rfl⟩
  have hb0 : Below w.heap.size w W := by rw [← hW]; exact (Below.refl _ w).alloc (Nat.le_refl _) _
  have hg : W.heap[w.heap.size]? = some (.cells #[.string ⟨a.toArray⟩, .string ⟨b.toArray⟩, .string ⟨c.toArray⟩, .int .i64 n, .bool d] 34 (0, 0)) := by rw [← hW]; exact heap_alloc_new w _
  have d0 := obj_cell hg 0 _ rfl
  have d1 := obj_cell hg 1 _ rfl
  have d2 := obj_cell hg 2 _ rfl
  have hz : w.heap.size < W.heap.size := obj_lt hg
  have heW := errOk_below he hb0
  have HW := Lib.hid (fun w' (hb : Below W.heap.size W w') => anm_any a w' (errOk_below heW hb))
  have HB := Lib.hid (fun w' (hb : Below W.heap.size W w') => anm_any b w' (errOk_below heW hb))
  have HT := Lib.hid (fun w' (hb : Below W.heap.size W w') => aty_any c w')
  have HB0 := Lib.hid hb0
  have hbW : Below W.heap.size W W := Below.refl _ W
  have HR : Hid (rlOk (a, b, c, n, d) = ((a == [42] || nrOk a) && nrOk b && (c == [42] || tyL c))) := Lib.hid rfl
  obtain ⟨n1, e1⟩ : ∃ x, nrOk a = x := ⟨_, rfl⟩
  obtain ⟨n2, e2⟩ : ∃ x, nrOk b = x := ⟨_, rfl⟩
  obtain ⟨n3, e3⟩ : ∃ x, tyL c = x := ⟨_, rfl⟩
  rw [e1] at HW
  rw [e2] at HB
  rw [e3] at HT
  rw [e1, e2, e3] at HR
  have hr := HR.out
  have hways : ((a == [42]) = false ∧ n1 = false) ∨ ((a == [42]) = true ∧ n2 = false) ∨ ((a == [42]) = false ∧ n1 = true ∧ n2 = false) ∨ ((a == [42]) = true ∧ n2 = true ∧ (c == [42]) = true) ∨ ((a == [42]) = false ∧ n1 = true ∧ n2 = true ∧ (c == [42]) = true) ∨ ((a == [42]) = true ∧ n2 = true ∧ (c == [42]) = false) ∨ ((a == [42]) = false ∧ n1 = true ∧ n2 = true ∧ (c == [42]) = false) := by
    cases (a == [42]) <;> cases n1 <;> cases n2 <;> cases (c == [42]) <;> simp
  clear he heW hb0 hg e1 e2 e3 hr
  rcases hways with ⟨p1, rfl⟩ | ⟨p1, rfl⟩ | ⟨p1, rfl, rfl⟩ | ⟨p1, rfl, p2⟩ | ⟨p1, rfl, rfl, p2⟩ | ⟨p1, rfl, p2⟩ | ⟨p1, rfl, rfl, p2⟩
  all_goals
    go_enter Tryz.func29, Tryz.ntmps29
    go_wp2_with ((first | with_reducible refine (HW.out _ hbW).mono ?_ | with_reducible refine (HB.out _ hbW).mono ?_ | with_reducible refine (HT.out _ hbW).mono ?_); rintro en w5 ⟨rfl, hb5⟩; have hbW := hbW.trans (hb5.mono hbW.size); have h0 := (hbW.cell (p := ⟨w.heap.size, 0, none⟩) hz).trans d0; have h1 := (hbW.cell (p := ⟨w.heap.size, 1, none⟩) hz).trans d1; have h2 := (hbW.cell (p := ⟨w.heap.size, 2, none⟩) hz).trans d2)
    go_ret
    refine boolPost_mk ?_ (HB0.out.trans (hbW.mono HB0.out.size))
    rw [HR.out, p1]
    first | rfl | (rw [p2]; rfl) | simp
end Go.Proofs.YtbihhdkmmlldnaaGreatDoor
namespace Go.Proofs.YtbihhdkmmlldnaaGreatDoor
set_option linter.unusedSimpArgs false
set_option linter.unusedVariables false
open Go Go.RowKit Go.Proofs.BerK Go.Proofs.MemK Go.Proofs.UtfK

theorem rt_ways (r : Int) : (r = 1 ∧ (r == 1 || r == 2) = true) ∨ (r ≠ 1 ∧ r = 2 ∧ (r == 1 || r == 2) = true) ∨ (r ≠ 1 ∧ r ≠ 2 ∧ (r == 1 || r == 2) = false) := by
  by_cases h1 : r = 1
  · exact .inl ⟨h1, by simp [h1]⟩
  · by_cases h2 : r = 2
    · exact .inr (.inl ⟨h1, h2, by simp [h2]⟩)
    · exact .inr (.inr ⟨h1, h2, by simp [h1, h2]⟩)
set_option maxHeartbeats 6400000 in
set_option maxRecDepth 100000 in
theorem acheck_any (v : Value) (L : List Rl) (w : World) (he : ErrOk w) (h : RlAt w v L) : Calls Tryz.prog 11 #[v] w (NumPost (ckA L) w) := by
  obtain ⟨a, c, rfl, _⟩ := id h
  have HA := Lib.hid h
  have HE := Lib.hid he
  clear h he
  obtain ⟨n, hn⟩ : ∃ n, L.length = n := ⟨_, rfl⟩
  have HL := Lib.hid hn
  rw [hn]
  by_cases h0 : 256 < n
  · have H := Lib.hid (ckA_long (l := L) (by omega))
    have h1 : (256 : Int) < (n : Int) := by omega
    clear h0 hn
    go_enter Tryz.func11, Tryz.ntmps11
    go_wp2
    go_step3
    go_wp2
    try rw [Exit.noGoto_ret]
    go_ret
    exact numPost_mk H.out (Below.refl _ _)
  have h1 : ¬ (256 : Int) < (n : Int) := by omega
  have hnb : n ≤ 256 := by omega
  have HK := Lib.hid (ckA_bad (l := L) (by omega))
  have HO := Lib.hid (ckA_ok (l := L) (by omega))
  have hE0 : Value.int .i64 (0 : Int) = .int .i64 ((erA ((L.take 0).all rtOk) : Nat) : Int) := by simp [erA]
  have HE0 := Lib.hid hE0
  clear h0 hn hE0
  go_enter Tryz.func11, Tryz.ntmps11
  go_wp2
  go_step3
  go_wp2
  go_step3
  go_wp2
  go_loopw [3, 11] (fun ev v wr => ∃ k : Nat, k ≤ n ∧ v = .int .i64 (k : Nat) ∧ ev = .int .i64 ((erA ((L.take k).all rtOk) : Nat) : Int) ∧ Below w.heap.size w wr ∧ (L.take k).all rlOk = true) (fun _ v _ => n - (intOf v).toNat)
  case atStart => exact ⟨0, by omega, rfl, HE0.out, Below.refl _ _, rfl⟩
  case round =>
    obtain ⟨k, hk, rfl, rfl, hb, hall⟩ := hrel
    by_cases hlt : k < n
    · have hkl : (k : Int) < (n : Int) := by omega
      have hkL : k < L.length := by rw [HL.out]; exact hlt
      have hA2 := rlAt_below HA.out hb
      rw [HL.out] at hA2
      obtain ⟨g, o, rfl, hg, c0, c1, c2, c3, c4⟩ := rlAt_five hA2 k hkL
      have HS := Lib.hid (And.intro (all_snoc rlOk L k hkL) (all_snoc rtOk L k hkL))
      have HB := Lib.hid (fun hq => HK.out k hkL hq)
      obtain ⟨⟨s0, s1, s2, s3, s4⟩, hr⟩ : ∃ x, L[k] = x := ⟨_, rfl⟩
      rw [hr] at c0 c1 c2 c3 c4 HS HB
      dsimp only at c0 c1 c2 c3 c4
      have HN := Lib.hid (fun w' (hb : Below w.heap.size w w') => anamed_any s0 s1 s2 s3 s4 w' (errOk_below HE.out hb))
      have HX := Lib.hid (And.intro hb hall)
      have HT : Hid (rtOk (s0, s1, s2, s3, s4) = (s3 == 1 || s3 == 2)) := Lib.hid rfl
      obtain ⟨q, hq⟩ : ∃ x, rlOk (s0, s1, s2, s3, s4) = x := ⟨_, rfl⟩
      rw [hq] at HN HS HB
      obtain ⟨er, her⟩ : ∃ x : Int, ((erA ((L.take k).all rtOk) : Nat) : Int) = x := ⟨_, rfl⟩
      have HER := Lib.hid her
      rw [her]
      clear hb hall hA2 hr hq her
      go_wp2_with fail
      refine (HN.out _ (by first | exact HX.out.1.alloc HX.out.1.size _ | exact (HX.out.1.alloc HX.out.1.size _).drew)).mono ?_
      rintro e w2 ⟨rfl, hb2⟩
      have hB2 : Below w.heap.size w w2 := (HX.out.1.alloc HX.out.1.size _).trans (hb2.mono (by simp; exact Nat.le_succ_of_le HX.out.1.size))
      cases q
      · have H := Lib.hid (And.intro hB2 (HB.out rfl))
        clear hb2 hB2
        go_wp2
        try rw [Exit.noGoto_ret]
        go_ret
        exact numPost_mk H.out.2 H.out.1
      · have hbx : w2.heap[wr.heap.size]? = some (.cells #[.string ⟨s0.toArray⟩, .string ⟨s1.toArray⟩, .string ⟨s2.toArray⟩, .int .i64 s3, .bool s4] 34 (0, 0)) := obj_below (heap_alloc_new wr _) hb2 (by simp)
        have x3 := obj_cell hbx 3 _ rfl
        have HG := Lib.hid (show (L.take (k + 1)).all rlOk = true by rw [HS.out.1, HX.out.2]; rfl)
        have HR := Lib.hid HS.out.2
        have HBB := Lib.hid hB2
        clear hb2 hB2 hbx
        rcases rt_ways s3 with ⟨r1, r3⟩ | ⟨r1, r2, r3⟩ | ⟨r1, r2, r3⟩
        · have q1 : (s3 != 1) = false := by simp [r1]
          have HF := Lib.hid (show er = ((erA ((L.take (k + 1)).all rtOk) : Nat) : Int) by rw [HR.out, HT.out, r3, Bool.and_true]; exact HER.out.symm)
          clear r1 r3
          go_wp2
          exact ⟨⟨k + 1, by omega, by go_num, by rw [← HF.out], HBB.out, HG.out⟩, by simp [intOf]; omega⟩
        · have q1 : (s3 != 1) = true := by simp [r1]
          have q2 : (s3 != 2) = false := by simp [r2]
          have HF := Lib.hid (show er = ((erA ((L.take (k + 1)).all rtOk) : Nat) : Int) by rw [HR.out, HT.out, r3, Bool.and_true]; exact HER.out.symm)
          clear r1 r2 r3
          go_wp2
          exact ⟨⟨k + 1, by omega, by go_num, by rw [← HF.out], HBB.out, HG.out⟩, by simp [intOf]; omega⟩
        · have q1 : (s3 != 1) = true := by simp [r1]
          have q2 : (s3 != 2) = true := by simp [r2]
          have HF := Lib.hid (show (1 : Int) = ((erA ((L.take (k + 1)).all rtOk) : Nat) : Int) by rw [HR.out, HT.out, r3, Bool.and_false]; rfl)
          clear r1 r2 r3
          go_wp2
          exact ⟨⟨k + 1, by omega, by go_num, by rw [← HF.out], HBB.out, HG.out⟩, by simp [intOf]; omega⟩
    · obtain rfl : k = n := by omega
      have hl : L.take k = L := by rw [← HL.out]; exact List.take_length
      rw [hl] at hall ⊢
      have H := Lib.hid (And.intro hb (HO.out hall))
      clear hb hall
      go_wp2
      try rw [Exit.noGoto_ret]
      go_ret
      exact numPost_mk H.out.2 H.out.1
end Go.Proofs.YtbihhdkmmlldnaaGreatDoor
namespace Go.Proofs.YtbihhdkmmlldnaaGreatDoor
set_option linter.unusedSimpArgs false
set_option linter.unusedVariables false
open Go Go.RowKit Go.Proofs.BerK Go.Proofs.MemK Go.Proofs.UtfK

theorem fit_is (who at_ attr a b c : List UInt8) (right n : Int) (d : Bool) : fitA who at_ attr right (a, b, c, n, d) = ((n == right) && (a == [42] || a == who) && undL at_ b && (c == [42] || lowL c == lowL attr)) := rfl
theorem fit_low (who at_ attr a b c : List UInt8) (right n : Int) (d : Bool) : fitA who at_ attr right (a, b, c, n, d) = ((n == right) && (a == [42] || a == who) && undL at_ b && (lowL c == [42] || lowL c == lowL attr)) := by rw [fit_is, low_star]
theorem nofit {who at_ attr : List UInt8} {right : Int} {L : List Rl} {k : Nat} (h : ∀ j (hj : j < L.length), j < k → fitA who at_ attr right L[j] = false) (hk : k < L.length) (h2 : fitA who at_ attr right L[k] = false) : ∀ j (hj : j < L.length), j < k + 1 → fitA who at_ attr right L[j] = false := by
  intro j hj hjk
  by_cases e : j = k
  · subst e; exact h2
  · exact h j hj (by omega)
theorem fn_none : fnI none = -1 := rfl
theorem fn_some (k : Nat) : fnI (some k) = (k : Nat) := rfl
set_option maxHeartbeats 12800000 in
set_option maxRecDepth 100000 in
theorem afirst_any (v : Value) (L : List Rl) (s t u : List UInt8) (r : Int) (w : World) (he : ErrOk w) (h : RlAt w v L) : Calls Tryz.prog 13 #[v, .string ⟨s.toArray⟩, .string ⟨t.toArray⟩, .string ⟨u.toArray⟩, .int .i64 r] w (DepPost (fnI (frA L s t u r)) w) := by
  have HCk := Lib.hid (acheck_any v L w he h)
  obtain ⟨a, c, rfl, _⟩ := id h
  have HA := Lib.hid h
  have HE := Lib.hid he
  clear h he
  obtain ⟨n, hn⟩ : ∃ n, L.length = n := ⟨_, rfl⟩
  have HL := Lib.hid hn
  rw [hn] at HCk ⊢
  obtain ⟨m, hm⟩ : ∃ m, ckA L = m := ⟨_, rfl⟩
  rw [hm] at HCk
  have HLo := Lib.hid (fun x w' => show Calls Tryz.prog 32 #[.string ⟨(x : List UInt8).toArray⟩] w' (StrPost (lowL x) w') from lower_any ⟨x.toArray⟩ w')
  by_cases h0 : m ≠ 0
  · have H := Lib.hid (show fnI (frA L s t u r) = -1 by rw [fr_none (by rw [hm]; exact h0)]; rfl)
    have q : ((m : Int) != 0) = true := by simp; omega
    clear hm h0 hn
    go_enter Tryz.func13, Tryz.ntmps13
    go_wp2
    go_step3
    go_wp2_with fail
    refine HCk.out.mono ?_
    rintro e w1 ⟨rfl, hb⟩
    have HB := Lib.hid hb
    clear hb
    go_wp2
    try rw [Exit.noGoto_ret]
    go_ret
    exact depPost_mk H.out HB.out
  have h0 : m = 0 := by omega
  subst h0
  have hn256 : n ≤ 256 := by
    by_cases h : 256 < n
    · have := ckA_long (l := L) (by omega); omega
    · omega
  have HZ := Lib.hid hm
  have HN0 := Lib.hid (fun h => show fnI (frA L s t u r) = -1 by rw [fr_no h]; rfl)
  have HN1 := Lib.hid (fun k hk h1 h2 => show fnI (frA L s t u r) = ((k : Nat) : Int) by rw [fr_at hm k hk h1 h2]; rfl)
  clear hm hn
  go_enter Tryz.func13, Tryz.ntmps13
  go_wp2
  go_step3
  go_wp2_with fail
  refine HCk.out.mono ?_
  rintro e w1 ⟨rfl, hb⟩
  have HB1 := Lib.hid hb
  clear hb
  go_wp2_with fail
  refine (HLo.out u _).mono ?_
  rintro e w2 ⟨rfl, hb⟩
  have HB2 := Lib.hid (HB1.out.trans (hb.mono HB1.out.size))
  clear hb
  go_wp2
  go_step3
  go_wp2
  go_loopw [11, 21] (fun fv v wr => ∃ k : Nat, k ≤ n ∧ v = .int .i64 (k : Nat) ∧ fv = .int .i64 (-1) ∧ Below w.heap.size w wr ∧ ∀ j (hj : j < L.length), j < k → fitA s t u r L[j] = false) (fun _ v _ => n - (intOf v).toNat)
  case atStart => exact ⟨0, by omega, rfl, rfl, HB2.out, fun j _ h => by omega⟩
  case round =>
    obtain ⟨k, hk, rfl, rfl, hb, hall⟩ := hrel
    by_cases hlt : k < n
    · have hkl : (k : Int) < (n : Int) := by omega
      have hkL : k < L.length := by rw [HL.out]; exact hlt
      have hA2 := rlAt_below HA.out hb
      rw [HL.out] at hA2
      obtain ⟨g, o, rfl, hg, c0, c1, c2, c3, c4⟩ := rlAt_five hA2 k hkL
      have HNf := Lib.hid (fun hq => nofit hall hkL hq)
      have HYf := Lib.hid (fun hq => HN1.out k hkL hq hall)
      obtain ⟨⟨s0, s1, s2, s3, s4⟩, hr⟩ : ∃ x, L[k] = x := ⟨_, rfl⟩
      rw [hr] at c0 c1 c2 c3 c4 HNf HYf
      dsimp only at c0 c1 c2 c3 c4
      have HX := Lib.hid hb
      have HF := Lib.hid (fit_low s t u s0 s1 s2 r s3 s4)
      have HU := Lib.hid (fun w' (hb : Below w.heap.size w w') => under_any t s1 w' (errOk_below HE.out hb))
      have HC0 := Lib.hid (covers_any s0 s)
      have HC2 := Lib.hid (covers_any (lowL s2) (lowL u))
      obtain ⟨b0, e0⟩ : ∃ x, (s0 == [42] || s0 == s) = x := ⟨_, rfl⟩
      obtain ⟨b1, e1⟩ : ∃ x, undL t s1 = x := ⟨_, rfl⟩
      obtain ⟨b2, e2⟩ : ∃ x, (lowL s2 == [42] || lowL s2 == lowL u) = x := ⟨_, rfl⟩
      rw [e0] at HC0 HF
      rw [e1] at HU HF
      rw [e2] at HC2 HF
      have hways : (s3 == r) = false ∨ ((s3 == r) = true ∧ b0 = false) ∨ ((s3 == r) = true ∧ b0 = true ∧ b2 = false) ∨ ((s3 == r) = true ∧ b0 = true ∧ b2 = true ∧ b1 = false) ∨ ((s3 == r) = true ∧ b0 = true ∧ b2 = true ∧ b1 = true) := by
        cases (s3 == r) <;> cases b0 <;> cases b1 <;> cases b2 <;> simp
      have hbx : (wr.alloc (.cells #[.string ⟨s0.toArray⟩, .string ⟨s1.toArray⟩, .string ⟨s2.toArray⟩, .int .i64 s3, .bool s4] 34)).heap[wr.heap.size]? = some (.cells #[.string ⟨s0.toArray⟩, .string ⟨s1.toArray⟩, .string ⟨s2.toArray⟩, .int .i64 s3, .bool s4] 34 (0, 0)) := heap_alloc_new wr _
      obtain ⟨W, hW⟩ : ∃ W, wr.alloc (.cells #[.string ⟨s0.toArray⟩, .string ⟨s1.toArray⟩, .string ⟨s2.toArray⟩, .int .i64 s3, .bool s4] 34) = W := ⟨_, rfl⟩
      rw [hW] at hbx
      have hbW : Below w.heap.size w W := by rw [← hW]; exact hb.alloc hb.size _
      have HWs := Lib.hid (And.intro hbx hbW)
      have d0 := obj_cell hbx 0 _ rfl
      have d1 := obj_cell hbx 1 _ rfl
      have d2 := obj_cell hbx 2 _ rfl
      have d3 := obj_cell hbx 3 _ rfl
      clear hb hall hA2 hr e0 e1 e2 hbx hbW
      rcases hways with p1 | ⟨p1, rfl⟩ | ⟨p1, rfl, rfl⟩ | ⟨p1, rfl, rfl, rfl⟩ | ⟨p1, rfl, rfl, rfl⟩
      · have q1 : (s3 != r) = true := by simp [bne, p1]
        have HG := Lib.hid (HNf.out (by rw [HF.out, p1]; rfl))
        clear p1
        go_wp2
        exact ⟨⟨k + 1, by omega, by go_num, rfl, HWs.out.2, HG.out⟩, by simp [intOf]; omega⟩
      all_goals
        have q1 : (s3 != r) = false := by simp [bne, p1]
      · have HG := Lib.hid (HNf.out (by rw [HF.out, p1]; rfl))
        clear p1
        go_wp2_with fail
        refine (HC0.out _).mono ?_
        rintro e w3 ⟨rfl, rfl⟩
        go_wp2
        exact ⟨⟨k + 1, by omega, by go_num, rfl, HWs.out.2, HG.out⟩, by simp [intOf]; omega⟩
      all_goals
        go_wp2_with fail
        refine (HC0.out _).mono ?_
        rintro e w3 ⟨rfl, h3⟩
        obtain rfl := h3.symm
        go_wp2_with fail
        refine (HLo.out s2 _).mono ?_
        rintro e w4 ⟨rfl, hb4⟩
        have d1 := (hb4.cell (p := ⟨wr.heap.size, _, none⟩) (obj_lt HWs.out.1)).trans d1
        have HB4 := Lib.hid (HWs.out.2.trans (hb4.mono HWs.out.2.size))
        clear hb4
        go_wp2_with fail
        refine (HC2.out _).mono ?_
        rintro e w5 ⟨rfl, h3⟩
        obtain rfl := h3.symm
      · have HG := Lib.hid (HNf.out (by rw [HF.out, p1]; cases b1 <;> rfl))
        clear p1
        go_wp2
        exact ⟨⟨k + 1, by omega, by go_num, rfl, HB4.out, HG.out⟩, by simp [intOf]; omega⟩
      all_goals
        go_wp2_with fail
        refine (HU.out _ (by first | exact HB4.out | exact HB4.out.drew)).mono ?_
        rintro e w6 ⟨rfl, hb6⟩
        have HB6 := Lib.hid (HB4.out.trans (hb6.mono HB4.out.size))
        clear hb6
      · have HG := Lib.hid (HNf.out (by rw [HF.out, p1]; rfl))
        clear p1
        go_wp2
        exact ⟨⟨k + 1, by omega, by go_num, rfl, HB6.out, HG.out⟩, by simp [intOf]; omega⟩
      · have HG := Lib.hid (HYf.out (by rw [HF.out, p1]; rfl))
        clear p1
        go_wp2
        try rw [Exit.noGoto_ret]
        go_ret
        exact depPost_mk HG.out HB6.out
    · obtain rfl : k = n := by omega
      have H := Lib.hid (And.intro hb (HN0.out (fun j hj => hall j hj (by rw [← HL.out]; exact hj))))
      clear hb hall
      go_wp2
      try rw [Exit.noGoto_ret]
      go_ret
      exact depPost_mk H.out.2 H.out.1
set_option maxHeartbeats 3200000 in
set_option maxRecDepth 100000 in
theorem allowed_any (v : Value) (L : List Rl) (s t u : List UInt8) (r : Int) (w : World) (he : ErrOk w) (h : RlAt w v L) : Calls Tryz.prog 15 #[v, .string ⟨s.toArray⟩, .string ⟨t.toArray⟩, .string ⟨u.toArray⟩, .int .i64 r] w (BoolPost (alA L s t u r) w) := by
  have HC := Lib.hid (afirst_any v L s t u r w he h)
  obtain ⟨a, c, rfl, _⟩ := id h
  have HA := Lib.hid h
  clear h he
  cases hf : frA L s t u r with
  | none =>
    have H := Lib.hid (al_no hf)
    rw [hf, fn_none] at HC
    clear hf
    go_enter Tryz.func15, Tryz.ntmps15
    go_wp2_with fail
    refine HC.out.mono ?_
    rintro e w1 ⟨rfl, hb⟩
    have HB := Lib.hid hb
    clear hb
    go_wp2
    go_ret
    exact boolPost_mk H.out HB.out
  | some i =>
    have hi := fr_lt hf
    have H := Lib.hid (al_at hf hi)
    rw [hf, fn_some] at HC
    obtain ⟨n, hn⟩ : ∃ n, L.length = n := ⟨_, rfl⟩
    have HL := Lib.hid hn
    have HI := Lib.hid hi
    rw [hn] at hi HC ⊢
    have hil : (i : Int) < (n : Int) := by omega
    have q : ((i : Int) != -1) = true := by first | (simp; done) | (simp; omega)
    clear hf hn
    go_enter Tryz.func15, Tryz.ntmps15
    go_wp2_with fail
    refine HC.out.mono ?_
    rintro e w1 ⟨rfl, hb⟩
    have hA2 := rlAt_below HA.out hb
    obtain ⟨g, o, rfl, _, _, _, _, _, c4⟩ := rlAt_five hA2 i HI.out
    have HB := Lib.hid hb
    clear hb hA2
    go_wp2
    go_ret
    exact boolPost_mk H.out HB.out
end Go.Proofs.YtbihhdkmmlldnaaGreatDoor
