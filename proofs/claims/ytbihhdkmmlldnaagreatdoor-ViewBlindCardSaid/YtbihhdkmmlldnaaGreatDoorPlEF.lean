/- The document's parts of a name as texts, parts with commas between, and whether some are the last ones of others. The document's Depth, Parent, Leaf, Under, Join, Move, for all texts. -/
import Derived.Test.YtbihhdkmmlldnaaGreatDoorDrGH
import Derived.Test.YtbihhdkmmlldnaaGreatDoorPlAC
import Derived.Test.YtbihhdkmmlldnaaGreatDoorGenB
namespace Go.Proofs.YtbihhdkmmlldnaaGreatDoor
set_option linter.unusedSimpArgs false
set_option linter.unusedVariables false
open Go Go.RowKit Go.Proofs.BerK Go.Proofs.MemK Go.Proofs.UtfK

/-- Texts lie in memory, to be read. -/
def StrR (w : World) (v : Value) (l : List (List UInt8)) : Prop :=
  ∃ a c, v = .slice a l.length c ∧ ∀ i (hi : i < l.length), ∃ g o, a = some ⟨g, o, none⟩ ∧ g < w.heap.size ∧ w.cell? ⟨g, o + i, none⟩ = some (.string ⟨l[i].toArray⟩)
theorem strR_below {w w' : World} {v : Value} {l : List (List UInt8)} (h : StrR w v l) (hb : Below w.heap.size w w') : StrR w' v l := by
  obtain ⟨a, c, rfl, h⟩ := h
  refine ⟨a, c, rfl, fun i hi => ?_⟩
  obtain ⟨g, o, h1, h2, h3⟩ := h i hi
  exact ⟨g, o, h1, Nat.lt_of_lt_of_le h2 hb.size, (hb.cell (p := ⟨g, o + i, none⟩) h2).trans h3⟩
theorem strR_owns {w : World} {B : Nat} {e : TypeId} {v : Value} {l : List (List UInt8)} (h : w.ownsRow B e 1 v l.length (sc l)) : StrR w v l := by
  obtain ⟨a, c, hv, hc⟩ := strU_owns h
  refine ⟨a, c, hv, fun i hi => ?_⟩
  obtain ⟨g, h1, h2, h3⟩ := hc i hi
  exact ⟨g, 0, h1, h2, by rw [Nat.zero_add]; exact h3⟩
theorem strR_tail {w : World} {B : Nat} {e : TypeId} {g n c c2 : Nat} {l : List (List UInt8)} (h : w.ownsRow B e 1 (.slice (some ⟨g, 0, none⟩) n c) l.length (sc l)) (o : Nat) (ho : o = 1 ∨ l.length ≤ 1) : StrR w (.slice (some ⟨g, o, none⟩) (l.length - 1) c2) (l.drop 1) := by
  refine ⟨some ⟨g, o, none⟩, c2, by rw [List.length_drop], fun i hi => ?_⟩
  rw [List.length_drop] at hi
  obtain ⟨a, c', hv, hc⟩ := strU_owns h
  injection hv with hv1 _ _
  obtain ⟨g', h1, h2, h3⟩ := hc (i + 1) (by omega)
  rw [← hv1] at h1
  injection h1 with h1
  injection h1 with h1 _ _
  subst h1
  refine ⟨g, o, rfl, h2, ?_⟩
  rw [show o + i = i + 1 by omega, h3]
  simp [Nat.add_comm]
/-- What hands back a row of texts of its own, if there is one. -/
def PsPost (o : Option (List (List UInt8))) (e : TypeId) (w : World) (en : Ending) (w' : World) : Prop :=
  match o with
  | none => en = .returned (.tuple #[.slice none 0 0, .bool false]) ∧ Below w.heap.size w w'
  | some L => ∃ v, en = .returned (.tuple #[v, .bool true]) ∧ w'.ownsRow w.heap.size e 1 v L.length (sc L) ∧ Below w.heap.size w w'
theorem psPost_none {o : Option (List (List UInt8))} {e : TypeId} {w w' : World} (h : o = none) (hb : Below w.heap.size w w') : PsPost o e w (.returned (.tuple #[.slice none 0 0, .bool false])) w' := by subst h; exact ⟨rfl, hb⟩
theorem psPost_some {o : Option (List (List UInt8))} {L : List (List UInt8)} {e : TypeId} {w w' : World} {v : Value} (h : o = some L) (h1 : w'.ownsRow w.heap.size e 1 v L.length (sc L)) (hb : Below w.heap.size w w') : PsPost o e w (.returned (.tuple #[v, .bool true])) w' := by subst h; exact ⟨v, rfl, h1, hb⟩
/-- A text's parts as texts, if it is normal. -/
def psO (s : List UInt8) : Option (List (List UInt8)) := (nrD s).map (·.map ptL)
theorem psO_err {s X : List UInt8} {n : Nat} (h : noD s = (X, n)) (h2 : n ≠ 0 ∨ X ≠ s) : psO s = none := by
  unfold psO
  rw [nr_not]; rfl
  rw [h]
  intro e
  obtain ⟨e1, e2⟩ := Prod.mk.inj e
  rcases h2 with h2 | h2
  · exact h2 e2
  · exact h2 e1
theorem psO_ok {s : List UInt8} (h : noD s = (s, 0)) : ∃ D, rdD s = (D, 0) ∧ psO s = some (D.map ptL) ∧ D.length ≤ 32 ∧ ∀ r ∈ D, prL r = true := by
  obtain ⟨D, hD⟩ := nr_of h
  have h2 := hD
  unfold nrD at h2
  rw [if_pos h] at h2
  injection h2 with h2
  obtain ⟨_, hg⟩ := nr_some hD
  refine ⟨D, ?_, by unfold psO; rw [hD]; rfl, hg.1, fun r hr => (hg.2.1 r hr).1⟩
  have h3 := rd_nm D hg.1 (fun r hr => (hg.2.1 r hr).1) hg.2.2
  rw [← (nr_some hD).1] at h3
  exact h3
set_option maxHeartbeats 6400000 in
set_option maxRecDepth 100000 in
theorem rparts_any (s : List UInt8) (w : World) : Calls Tryz.prog 30 #[.string ⟨s.toArray⟩] w (PsPost (psO s) 9 w) := by
  have HN := Lib.hid (rnorm_any ⟨s.toArray⟩ w)
  change Hid (Calls Tryz.prog _ _ w (PutPost (noD s) w)) at HN
  obtain ⟨P, hP⟩ : ∃ P, noD s = P := ⟨_, rfl⟩
  rw [hP] at HN
  obtain ⟨X, n⟩ := P
  by_cases hbad : n ≠ 0 ∨ X ≠ s
  · have HI := Lib.hid (psO_err hP hbad)
    have hc : ((n : Int) != 0) = true ∨ (((n : Int) != 0) = false ∧ (X == s) = false) := by
      by_cases hn : n = 0
      · refine .inr ⟨by rw [hn]; rfl, ?_⟩
        rw [beq_eq_false_iff_ne]
        rcases hbad with h | h
        · exact absurd hn h
        · exact h
      · exact .inl (by rw [bne_iff_ne]; omega)
    clear hP hbad
    rcases hc with q | ⟨q, q2⟩
    all_goals
      go_enter Tryz.func30, Tryz.ntmps30
      go_wp2_with fail
      refine HN.out.mono ?_
      rintro e w1 ⟨rfl, hb1⟩
      have HB := Lib.hid hb1
      clear hb1
      go_wp2
      go_ret2
      exact psPost_none HI.out HB.out
  · rw [not_or, Decidable.not_not, Decidable.not_not] at hbad
    obtain ⟨rfl, rfl⟩ := hbad
    obtain ⟨D, hrd, hps, hD32, hDp⟩ := psO_ok hP
    have HR := Lib.hid (fun w => rread_any ⟨X.toArray⟩ w)
    change Hid (∀ w, Calls Tryz.prog _ _ w (RnPost (rdD X) w)) at HR
    rw [hrd] at HR
    have HI := Lib.hid hps
    have HD := Lib.hid hDp
    clear hP hrd hps hDp
    go_enter Tryz.func30, Tryz.ntmps30
    go_wp2_with fail
    refine HN.out.mono ?_
    rintro e w1 ⟨rfl, hb1⟩
    have HB1 := Lib.hid hb1
    clear hb1
    go_wp2_with fail
    refine (HR.out w1).mono ?_
    rintro e w2 ⟨dv, rfl, hdn, hb2⟩
    obtain ⟨da, dc, hdv, hdcap, hdcells⟩ := id hdn
    change dv = .slice da D.length dc at hdv
    subst hdv
    have HDN := Lib.hid (And.intro hdcells (HB1.out.trans (hb2.mono HB1.out.size)))
    clear hdn hdcells hb2
    go_wp2
    go_loopw [8, 9] (fun o v wr => ∃ i : Nat, i ≤ D.length ∧ v = .int .i64 (i : Nat) ∧ wr.ownsRow w2.heap.size 9 1 o i (sc ((D.map ptL).take i)) ∧ Below w2.heap.size w2 wr) (fun _ v _ => D.length - (intOf v).toNat)
    case atStart => exact ⟨0, by omega, rfl, World.ownsRow_nil _ _ _ _, Below.refl _ _⟩
    case round =>
      obtain ⟨i, hi, rfl, hown, hb⟩ := hrel
      obtain ⟨oa, oc, rfl⟩ := ownsRow_slice hown
      by_cases hlt : i < D.length
      · have hil : (i : Int) < (D.length : Int) := by omega
        obtain ⟨g, o, u, rfl, hg, e1w, hav⟩ := HDN.out.1 i hlt
        have e1 := (hb.cell (p := ⟨g, o + i, none⟩) hg).trans e1w
        have hav2 := avAt_below hav hb
        obtain ⟨p1, p2, p3⟩ := prL_facts (HD.out _ (List.getElem_mem hlt))
        have HPt := Lib.hid (rpart6_any u D[i] p2 p3 wr hav2)
        obtain ⟨ua, uc, hu, _⟩ := id hav2
        subst hu
        have HS := Lib.hid (show sc ((D.map ptL).take (i + 1)) = sc ((D.map ptL).take i) ++ [.string ⟨(ptL D[i]).toArray⟩] by
          rw [List.take_succ_eq_append_getElem (by simpa using hlt)]; simp [sc])
        obtain ⟨r, hr⟩ : ∃ r, D[i] = r := ⟨_, rfl⟩
        rw [hr] at HPt HS e1 p2
        have H := Lib.hid (And.intro hown hb)
        clear hown hb hav hav2 p1 p3 hr e1w
        go_wp2_with fail
        refine HPt.out.mono ?_
        rintro e w3 ⟨rfl, hb3⟩
        have H3 := Lib.hid (And.intro (ownsRow_below H.out.1 hb3) (H.out.2.trans (hb3.mono H.out.2.size)))
        clear hb3
        go_wp2_with (at_builtin; refine wpList_pushm rfl (.tmp 33) (.tmp 39) 48 9 rfl w2.heap.size 1 16 (.string ByteArray.empty) Tryz.dninfo9 Tryz.underlying48 rfl (by decide) 1 [.string ⟨(ptL r).toArray⟩] rfl ?c0 _ i _ rfl _ rfl ?c3 H3.out.1 ?c1 ?c2 H3.out.2.size ?_)
        case c0 => first | rfl | (intro u hu; simp at hu; subst hu; rfl)
        case c1 => unfold maxLen; omega
        case c2 => omega
        case c3 => first | rfl | simp
        intro v' w' g1 g2
        have g3 : w'.ownsRow w2.heap.size 9 1 v' (i + 1) (sc ((D.map ptL).take (i + 1))) := by rw [HS.out]; exact g1
        have H4 := Lib.hid (And.intro g3 (H3.out.2.trans g2))
        clear g1 g2 g3
        go_wp2
        exact ⟨⟨i + 1, by omega, by go_num, H4.out.1, H4.out.2⟩, by simp [intOf]; omega⟩
      · obtain rfl : i = D.length := by omega
        rw [List.take_of_length_le (by simp)] at hown
        have H := Lib.hid (And.intro (ownsRow_base hown HDN.out.2.size) (HDN.out.2.trans (hb.mono HDN.out.2.size)))
        have HL := Lib.hid (show (D.map ptL).length = D.length by simp)
        clear hown hb
        go_wp2
        go_ret2
        exact psPost_some HI.out (by rw [HL.out]; exact H.out.1) H.out.2

/-! ### Whole -/
def whL (L : List (List UInt8)) : List UInt8 := jnL 44 true L
theorem nm_wh (D : List (List Av)) : nmL D = whL (D.map ptL) := rfl
/-! ### ends -/
def endL (L B : List (List UInt8)) : Bool := decide (B.length ≤ L.length) && (L.drop (L.length - B.length) == B)
theorem end_long {L B : List (List UInt8)} (h : L.length < B.length) : endL L B = false := by unfold endL; simp; omega
theorem end_step {L B : List (List UInt8)} (h : B.length ≤ L.length) (k : Nat) (hk : k < B.length) (hne : L[L.length - B.length + k]'(by omega) ≠ B[k]) : endL L B = false := by
  unfold endL
  rw [Bool.and_eq_false_iff]
  right
  rw [beq_eq_false_iff_ne]
  intro e
  apply hne
  have := congrArg (fun l => l[k]?) e
  simp only [List.getElem?_drop] at this
  rw [List.getElem?_eq_getElem (by omega), List.getElem?_eq_getElem hk] at this
  exact Option.some.inj this
theorem end_all {L B : List (List UInt8)} (h : B.length ≤ L.length) (ha : ∀ k (hk : k < B.length), L[L.length - B.length + k]'(by omega) = B[k]) : endL L B = true := by
  unfold endL
  rw [Bool.and_eq_true]
  refine ⟨by simpa using h, ?_⟩
  rw [beq_iff_eq]
  apply List.ext_getElem (by simp; omega)
  intro k h1 h2
  rw [List.getElem_drop]
  exact ha k h2
set_option maxHeartbeats 1600000 in
set_option maxRecDepth 100000 in
theorem rends_any (v u : Value) (L B : List (List UInt8)) (hLn : L.length ≤ 1000000) (w : World) (h : StrR w v L) (h2 : StrR w u B) : Calls Tryz.prog 50 #[v, u] w (BoolPost (endL L B) w) := by
  obtain ⟨a, c, hv, hcells⟩ := id h
  obtain ⟨a2, c2, hu, hcells2⟩ := id h2
  subst hv hu
  have HH := Lib.hid (And.intro hcells hcells2)
  obtain ⟨m, hm⟩ : ∃ m, B.length = m := ⟨_, rfl⟩
  obtain ⟨n, hn⟩ : ∃ n, L.length = n := ⟨_, rfl⟩
  by_cases hlong : n < m
  · have HR := Lib.hid (end_long (L := L) (B := B) (by omega))
    have q : (n : Int) < (m : Int) := by omega
    rw [hm, hn]
    clear h h2 hcells hcells2 hlong hm hn
    go_enter Tryz.func50, Tryz.ntmps50
    go_wp2
    go_ret
    exact boolPost_mk HR.out (Below.refl _ _)
  · have HE := Lib.hid (fun k hk => end_step (L := L) (B := B) (by omega) k hk)
    have HA := Lib.hid (end_all (L := L) (B := B) (by omega))
    have q : ¬ (n : Int) < (m : Int) := by omega
    have HMN := Lib.hid (And.intro hm hn)
    obtain ⟨R, hR⟩ : ∃ R, endL L B = R := ⟨_, rfl⟩
    rw [hR] at HE HA ⊢
    rw [hm, hn]
    clear h h2 hcells hcells2 hR
    go_enter Tryz.func50, Tryz.ntmps50
    go_wp2
    go_loopw [5] (fun v wr => ∃ k : Nat, k ≤ m ∧ v = .int .i64 (k : Nat) ∧ Below w.heap.size w wr ∧ ∀ j (hj : j < B.length), j < k → L[L.length - B.length + j]'(by omega) = B[j]) (fun v _ => m - (intOf v).toNat)
    case atStart => exact ⟨0, by omega, rfl, Below.refl _ _, fun j _ h => by omega⟩
    case round =>
      obtain ⟨k, hk, rfl, hb, hall⟩ := hrel
      by_cases hlt : k < m
      · have hkl : (k : Int) < (m : Int) := by omega
        have hp : L.length - B.length + k < L.length := by omega
        obtain ⟨g, o, rfl, hg, e1w⟩ := HH.out.1 (L.length - B.length + k) hp
        obtain ⟨g2, o2, rfl, hg2, e2w⟩ := HH.out.2 k (by omega)
        have e1 := (hb.cell (p := ⟨g, _, none⟩) hg).trans e1w
        have e2 := (hb.cell (p := ⟨g2, _, none⟩) hg2).trans e2w
        have HEk := Lib.hid (HE.out k (by omega))
        obtain ⟨z, hz⟩ : ∃ z, L.length - B.length + k = z := ⟨_, rfl⟩
        have hzi : (n : Int) - (m : Int) + (k : Int) = (z : Int) := by omega
        obtain ⟨x, hx⟩ : ∃ x, L[L.length - B.length + k] = x := ⟨_, rfl⟩
        obtain ⟨y, hy⟩ : ∃ y, B[k]'(by omega) = y := ⟨_, rfl⟩
        rw [hx, hz] at e1
        rw [hy] at e2
        rw [hx, hy] at HEk
        have hzn : (z : Int) < (n : Int) := by omega
        have w1 : IntKind.i64.wrap ((n : Int) - (m : Int)) = (n : Int) - (m : Int) := by rw [IntKind.wrap_i64]; omega
        have w2 : IntKind.i64.wrap ((n : Int) - (m : Int) + (k : Int)) = (z : Int) := by rw [IntKind.wrap_i64]; omega
        have H := Lib.hid (And.intro hb hall)
        have HXY := Lib.hid (And.intro hx hy)
        clear hb hall hx hy e1w e2w
        by_cases hxy : x = y
        · subst hxy
          go_wp2_with fail
          go_quiet (fail)
          have HB9 := Lib.hid (below_dn H.out.1 nq)
          have HAll := Lib.hid (show ∀ j (hj : j < B.length), j < k + 1 → L[L.length - B.length + j]'(by have := HMN.out; omega) = B[j] from fun j hj h => by
            by_cases hjk : j = k
            · subst hjk; exact HXY.out.1.trans HXY.out.2.symm
            · exact H.out.2 j hj (by omega))
          go_wp2
          exact ⟨⟨k + 1, by omega, by go_num, HB9.out, HAll.out⟩, by simp [intOf]; omega⟩
        · have hq : (x == y) = false := by rw [beq_eq_false_iff_ne]; exact hxy
          have HI := Lib.hid (HEk.out hxy)
          clear hxy
          go_wp2_with fail
          go_quiet (fail)
          have HB9 := Lib.hid (below_dn H.out.1 nq)
          go_wp2
          go_ret
          exact boolPost_mk HI.out HB9.out
      · have HI := Lib.hid (And.intro (HA.out fun j hj => hall j hj (by omega)) hb)
        obtain rfl : k = m := by omega
        clear hall hb
        go_wp2
        go_ret
        exact boolPost_mk HI.out.1 HI.out.2
end Go.Proofs.YtbihhdkmmlldnaaGreatDoor
namespace Go.Proofs.YtbihhdkmmlldnaaGreatDoor
set_option linter.unusedSimpArgs false
set_option linter.unusedVariables false
open Go Go.RowKit Go.Proofs.BerK Go.Proofs.MemK Go.Proofs.UtfK

theorem ps_none {s : List UInt8} (h : nrD s = none) : psO s = none := by unfold psO; rw [h]; rfl
theorem ps_some {s : List UInt8} {D : List (List Av)} (h : nrD s = some D) : psO s = some (D.map ptL) := by unfold psO; rw [h]; rfl
theorem und_ends {s b : List UInt8} {D E : List (List Av)} (h1 : nrD s = some D) (h2 : nrD b = some E) : undL s b = endL (D.map ptL) (E.map ptL) := by
  rw [Bool.eq_iff_iff]
  constructor
  · intro h
    obtain ⟨P, F, a1, a2⟩ := und_some h
    rw [h2] at a2
    obtain rfl := Option.some.inj a2
    rw [h1] at a1
    obtain rfl := Option.some.inj a1
    unfold endL
    rw [Bool.and_eq_true]
    refine ⟨by simp, ?_⟩
    rw [beq_iff_eq, List.map_append]
    simp
  · intro h
    unfold endL at h
    rw [Bool.and_eq_true, decide_eq_true_eq, beq_iff_eq] at h
    obtain ⟨hl, he⟩ := h
    obtain ⟨m, hm⟩ : ∃ m, (D.map ptL).length - (E.map ptL).length = m := ⟨_, rfl⟩
    rw [← List.map_drop, hm] at he
    have hg := (nr_some h1).2
    have hx := nm_inj (gd_drop hg m) (nr_some h2).2 (show nmL _ = nmL E by rw [nm_wh, nm_wh, he])
    exact und_of (P := D.take m) (by rw [← hx, List.take_append_drop]; exact h1) h2
theorem und_no {s b : List UInt8} (h : nrD s = none ∨ nrD b = none) : undL s b = false := by
  cases hu : undL s b with
  | false => rfl
  | true =>
    obtain ⟨P, E, a1, a2⟩ := und_some hu
    rcases h with h | h
    · rw [h] at a1; cases a1
    · rw [h] at a2; cases a2
theorem wh_len {D : List (List Av)} (h : GD D) : (whL (D.map ptL)).length ≤ 1000000 := by have := h.2.2; rw [nm_wh] at this; omega
theorem dep_bounds (s : List UInt8) : -1 ≤ depL s ∧ depL s ≤ 32 := by
  unfold depL
  cases h : nrD s with
  | none => simp
  | some D => have := (nr_some h).2.1; simp; omega

set_option maxHeartbeats 3200000 in
set_option maxRecDepth 100000 in
theorem runder_any (s b : List UInt8) (w : World) : Calls Tryz.prog 34 #[.string ⟨s.toArray⟩, .string ⟨b.toArray⟩] w (BoolPost (undL s b) w) := by
  have HP := Lib.hid (rparts_any s w)
  have HQ := Lib.hid (fun w => rparts_any b w)
  by_cases h : nrD s = none
  · have HO := Lib.hid (und_no (b := b) (.inl h))
    rw [ps_none h] at HP
    change Hid (Calls Tryz.prog _ _ w fun en w' => en = .returned (.tuple #[.slice none 0 0, .bool false]) ∧ Below w.heap.size w w') at HP
    obtain ⟨o, ho⟩ : ∃ o, psO b = o := ⟨_, rfl⟩
    rw [ho] at HQ
    clear h ho
    go_enter Tryz.func34, Tryz.ntmps34
    go_wp2_with fail
    refine HP.out.mono ?_
    rintro e w1 ⟨rfl, hb⟩
    have HB := Lib.hid hb
    clear hb
    cases o with
    | none =>
      change Hid (∀ w, Calls Tryz.prog _ _ w fun en w' => en = .returned (.tuple #[.slice none 0 0, .bool false]) ∧ Below w.heap.size w w') at HQ
      go_wp2_with fail
      refine (HQ.out _).mono ?_
      rintro e w2 ⟨rfl, hb2⟩
      have HB2 := Lib.hid (HB.out.trans (hb2.mono HB.out.size))
      clear hb2
      go_wp2
      go_ret
      exact boolPost_mk HO.out HB2.out
    | some L =>
      change Hid (∀ w, Calls Tryz.prog _ _ w fun en w' => ∃ v, en = .returned (.tuple #[v, .bool true]) ∧ w'.ownsRow w.heap.size _ 1 v L.length (sc L) ∧ Below w.heap.size w w') at HQ
      go_wp2_with fail
      refine (HQ.out _).mono ?_
      rintro e w2 ⟨v, rfl, hown, hb2⟩
      obtain ⟨a, c, rfl⟩ := ownsRow_slice hown
      have HB2 := Lib.hid (HB.out.trans (hb2.mono HB.out.size))
      clear hb2 hown
      go_wp2
      go_ret
      exact boolPost_mk HO.out HB2.out
  · obtain ⟨D, h⟩ := Option.ne_none_iff_exists'.1 h
    have hDl : (D.map ptL).length ≤ 1000000 := by have := (nr_some h).2.1; simp; omega
    rw [ps_some h] at HP
    obtain ⟨L, hL⟩ : ∃ L, D.map ptL = L := ⟨_, rfl⟩
    rw [hL] at HP hDl
    change Hid (Calls Tryz.prog _ _ w fun en w' => ∃ v, en = .returned (.tuple #[v, .bool true]) ∧ w'.ownsRow w.heap.size _ 1 v L.length (sc L) ∧ Below w.heap.size w w') at HP
    by_cases h2 : nrD b = none
    · have HO := Lib.hid (und_no (s := s) (.inr h2))
      rw [ps_none h2] at HQ
      change Hid (∀ w, Calls Tryz.prog _ _ w fun en w' => en = .returned (.tuple #[.slice none 0 0, .bool false]) ∧ Below w.heap.size w w') at HQ
      clear h h2 hL
      go_enter Tryz.func34, Tryz.ntmps34
      go_wp2_with fail
      refine HP.out.mono ?_
      rintro e w1 ⟨v, rfl, hown, hb⟩
      obtain ⟨a, c, rfl⟩ := ownsRow_slice hown
      have HB := Lib.hid hb
      clear hb hown
      go_wp2_with fail
      refine (HQ.out _).mono ?_
      rintro e w2 ⟨rfl, hb2⟩
      have HB2 := Lib.hid (HB.out.trans (hb2.mono HB.out.size))
      clear hb2
      go_wp2
      go_ret
      exact boolPost_mk HO.out HB2.out
    · obtain ⟨E, h2⟩ := Option.ne_none_iff_exists'.1 h2
      rw [ps_some h2] at HQ
      have HO := Lib.hid (und_ends h h2)
      obtain ⟨M, hM⟩ : ∃ M, E.map ptL = M := ⟨_, rfl⟩
      rw [hM] at HQ HO
      rw [hL] at HO
      change Hid (∀ w, Calls Tryz.prog _ _ w fun en w' => ∃ v, en = .returned (.tuple #[v, .bool true]) ∧ w'.ownsRow w.heap.size _ 1 v M.length (sc M) ∧ Below w.heap.size w w') at HQ
      clear h h2 hL hM
      go_enter Tryz.func34, Tryz.ntmps34
      go_wp2_with fail
      refine HP.out.mono ?_
      rintro e w1 ⟨v, rfl, hown, hb⟩
      obtain ⟨a, c, rfl⟩ := ownsRow_slice hown
      have HB := Lib.hid (And.intro hb (strR_owns hown))
      clear hb hown
      go_wp2_with fail
      refine (HQ.out _).mono ?_
      rintro e w2 ⟨v2, rfl, hown2, hb2⟩
      obtain ⟨a2, c2, rfl⟩ := ownsRow_slice hown2
      have HE := Lib.hid (rends_any _ _ L M hDl w2 (strR_below HB.out.2 hb2) (strR_owns hown2))
      have HB2 := Lib.hid (HB.out.1.trans (hb2.mono HB.out.1.size))
      clear hb2 hown2
      go_wp2_with fail
      refine HE.out.mono ?_
      rintro e w3 ⟨rfl, hb3⟩
      have HB3 := Lib.hid (HB2.out.trans (hb3.mono HB2.out.size))
      clear hb3
      go_wp2
      go_ret
      exact boolPost_mk HO.out HB3.out
end Go.Proofs.YtbihhdkmmlldnaaGreatDoor
