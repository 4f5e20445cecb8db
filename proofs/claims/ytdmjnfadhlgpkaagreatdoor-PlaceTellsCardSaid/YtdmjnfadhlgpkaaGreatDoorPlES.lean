/- The document's parts of a name as texts, parts with commas between, and whether some are the last ones of others. The document's Depth, Parent, Leaf, Under, Join, Move, for all texts. The document's Join and Move, for all texts. The document's Move, for all texts. The law that tells where any texts stand, for all texts. -/
import Derived.Test.YtdmjnfadhlgpkaaGreatDoorDrH
import Derived.Test.YtdmjnfadhlgpkaaGreatDoorPlB
import Derived.Test.YtdmjnfadhlgpkaaGreatDoorPlC
import Derived.Test.YtdmjnfadhlgpkaaGreatDoorRd
import Derived.Test.YtdmjnfadhlgpkaaGreatDoorPlD
namespace Go.Proofs.YtdmjnfadhlgpkaaGreatDoor
set_option linter.unusedSimpArgs false
set_option linter.unusedVariables false
open Go Go.RowKit Go.Proofs.BerK Go.Proofs.MemK Go.Proofs.UtfK

/-- Texts lie in memory, to be read. -/
def StrR (w : World) (v : Value) (l : List (List UInt8)) : Prop :=
  ∃ a c, v = .slice a l.length c ∧ ∀ i (hi : i < l.length), ∃ g o, a = some ⟨g, o, none⟩ ∧ g < w.heap.size ∧ w.cell? ⟨g, o + i, none⟩ = some (.string ⟨l[i].toArray⟩)
theorem strR_below {w w' : World} {v : Value} {l : List (List UInt8)} (h : StrR w v l) (hb : Below w.heap.size w w') : StrR w' v l := by
  obtain ⟨a, c, rfl, h⟩ := h
  refine ⟨a, c, rfl, fun i hi => ?_⟩
  obtain ⟨g, o, h1, h2, h3⟩ := h i hi
  exact ⟨g, o, h1, Nat.lt_of_lt_of_le h2 hb.size, (hb.cell (p := ⟨g, o + i, none⟩) h2).trans h3⟩
theorem strR_owns {w : World} {B : Nat} {e : TypeId} {v : Value} {l : List (List UInt8)} (h : w.ownsRow B e 1 v l.length (sc l)) : StrR w v l := by
  obtain ⟨a, c, hv, hc⟩ := strU_owns h
  refine ⟨a, c, hv, fun i hi => ?_⟩
  obtain ⟨g, h1, h2, h3⟩ := hc i hi
  exact ⟨g, 0, h1, h2, by rw [Nat.zero_add]; exact h3⟩
theorem strR_tail {w : World} {B : Nat} {e : TypeId} {g n c c2 : Nat} {l : List (List UInt8)} (h : w.ownsRow B e 1 (.slice (some ⟨g, 0, none⟩) n c) l.length (sc l)) (o : Nat) (ho : o = 1 ∨ l.length ≤ 1) : StrR w (.slice (some ⟨g, o, none⟩) (l.length - 1) c2) (l.drop 1) := by
  refine ⟨some ⟨g, o, none⟩, c2, by rw [List.length_drop], fun i hi => ?_⟩
  rw [List.length_drop] at hi
  obtain ⟨a, c', hv, hc⟩ := strU_owns h
  injection hv with hv1 _ _
  obtain ⟨g', h1, h2, h3⟩ := hc (i + 1) (by omega)
  rw [← hv1] at h1
  injection h1 with h1
  injection h1 with h1 _ _
  subst h1
  refine ⟨g, o, rfl, h2, ?_⟩
  rw [show o + i = i + 1 by omega, h3]
  simp [Nat.add_comm]
/-- What hands back a row of texts of its own, if there is one. -/
def PsPost (o : Option (List (List UInt8))) (e : TypeId) (w : World) (en : Ending) (w' : World) : Prop :=
  match o with
  | none => en = .returned (.tuple #[.slice none 0 0, .bool false]) ∧ Below w.heap.size w w'
  | some L => ∃ v, en = .returned (.tuple #[v, .bool true]) ∧ w'.ownsRow w.heap.size e 1 v L.length (sc L) ∧ Below w.heap.size w w'
theorem psPost_none {o : Option (List (List UInt8))} {e : TypeId} {w w' : World} (h : o = none) (hb : Below w.heap.size w w') : PsPost o e w (.returned (.tuple #[.slice none 0 0, .bool false])) w' := by subst h; exact ⟨rfl, hb⟩
theorem psPost_some {o : Option (List (List UInt8))} {L : List (List UInt8)} {e : TypeId} {w w' : World} {v : Value} (h : o = some L) (h1 : w'.ownsRow w.heap.size e 1 v L.length (sc L)) (hb : Below w.heap.size w w') : PsPost o e w (.returned (.tuple #[v, .bool true])) w' := by subst h; exact ⟨v, rfl, h1, hb⟩
/-- A text's parts as texts, if it is normal. -/
def psO (s : List UInt8) : Option (List (List UInt8)) := (nrD s).map (·.map ptL)
theorem psO_err {s X : List UInt8} {n : Nat} (h : noD s = (X, n)) (h2 : n ≠ 0 ∨ X ≠ s) : psO s = none := by
  unfold psO
  rw [nr_not]; rfl
  rw [h]
  intro e
  obtain ⟨e1, e2⟩ := Prod.mk.inj e
  rcases h2 with h2 | h2
  · exact h2 e2
  · exact h2 e1
theorem psO_ok {s : List UInt8} (h : noD s = (s, 0)) : ∃ D, rdD s = (D, 0) ∧ psO s = some (D.map ptL) ∧ D.length ≤ 32 ∧ ∀ r ∈ D, prL r = true := by
  obtain ⟨D, hD⟩ := nr_of h
  have h2 := hD
  unfold nrD at h2
  rw [if_pos h] at h2
  injection h2 with h2
  obtain ⟨_, hg⟩ := nr_some hD
  refine ⟨D, ?_, by unfold psO; rw [hD]; rfl, hg.1, fun r hr => (hg.2.1 r hr).1⟩
  have h3 := rd_nm D hg.1 (fun r hr => (hg.2.1 r hr).1) hg.2.2
  rw [← (nr_some hD).1] at h3
  exact h3
set_option maxHeartbeats 6400000 in
set_option maxRecDepth 100000 in
theorem rparts_any (s : List UInt8) (w : World) : Calls Tryz.prog 20 #[.string ⟨s.toArray⟩] w (PsPost (psO s) 9 w) := by
  have HN := Lib.hid (rnorm_any ⟨s.toArray⟩ w)
  change Hid (Calls Tryz.prog _ _ w (PutPost (noD s) w)) at HN
  obtain ⟨P, hP⟩ : ∃ P, noD s = P := ⟨_, rfl⟩
  rw [hP] at HN
  obtain ⟨X, n⟩ := P
  by_cases hbad : n ≠ 0 ∨ X ≠ s
  · have HI := Lib.hid (psO_err hP hbad)
    have hc : ((n : Int) != 0) = true ∨ (((n : Int) != 0) = false ∧ (X == s) = false) := by
      by_cases hn : n = 0
      · refine .inr ⟨by rw [hn]; rfl, ?_⟩
        rw [beq_eq_false_iff_ne]
        rcases hbad with h | h
        · exact absurd hn h
        · exact h
      · exact .inl (by rw [bne_iff_ne]; omega)
    clear hP hbad
    rcases hc with q | ⟨q, q2⟩
    all_goals
      go_enter Tryz.func20, Tryz.ntmps20
      go_wp2_with fail
      refine HN.out.mono ?_
      rintro e w1 ⟨rfl, hb1⟩
      have HB := Lib.hid hb1
      clear hb1
      go_wp2
      go_ret2
      exact psPost_none HI.out HB.out
  · rw [not_or, Decidable.not_not, Decidable.not_not] at hbad
    obtain ⟨rfl, rfl⟩ := hbad
    obtain ⟨D, hrd, hps, hD32, hDp⟩ := psO_ok hP
    have HR := Lib.hid (fun w => rread_any ⟨X.toArray⟩ w)
    change Hid (∀ w, Calls Tryz.prog _ _ w (RnPost (rdD X) w)) at HR
    rw [hrd] at HR
    have HI := Lib.hid hps
    have HD := Lib.hid hDp
    clear hP hrd hps hDp
    go_enter Tryz.func20, Tryz.ntmps20
    go_wp2_with fail
    refine HN.out.mono ?_
    rintro e w1 ⟨rfl, hb1⟩
    have HB1 := Lib.hid hb1
    clear hb1
    go_wp2_with fail
    refine (HR.out w1).mono ?_
    rintro e w2 ⟨dv, rfl, hdn, hb2⟩
    obtain ⟨da, dc, hdv, hdcap, hdcells⟩ := id hdn
    change dv = .slice da D.length dc at hdv
    subst hdv
    have HDN := Lib.hid (And.intro hdcells (HB1.out.trans (hb2.mono HB1.out.size)))
    clear hdn hdcells hb2
    go_wp2
    go_loopw [8, 9] (fun o v wr => ∃ i : Nat, i ≤ D.length ∧ v = .int .i64 (i : Nat) ∧ wr.ownsRow w2.heap.size 9 1 o i (sc ((D.map ptL).take i)) ∧ Below w2.heap.size w2 wr) (fun _ v _ => D.length - (intOf v).toNat)
    case atStart => exact ⟨0, by omega, rfl, World.ownsRow_nil _ _ _ _, Below.refl _ _⟩
    case round =>
      obtain ⟨i, hi, rfl, hown, hb⟩ := hrel
      obtain ⟨oa, oc, rfl⟩ := ownsRow_slice hown
      by_cases hlt : i < D.length
      · have hil : (i : Int) < (D.length : Int) := by omega
        obtain ⟨g, o, u, rfl, hg, e1w, hav⟩ := HDN.out.1 i hlt
        have e1 := (hb.cell (p := ⟨g, o + i, none⟩) hg).trans e1w
        have hav2 := avAt_below hav hb
        obtain ⟨p1, p2, p3⟩ := prL_facts (HD.out _ (List.getElem_mem hlt))
        have HPt := Lib.hid (rpart6_any u D[i] p2 p3 wr hav2)
        obtain ⟨ua, uc, hu, _⟩ := id hav2
        subst hu
        have HS := Lib.hid (show sc ((D.map ptL).take (i + 1)) = sc ((D.map ptL).take i) ++ [.string ⟨(ptL D[i]).toArray⟩] by
          rw [List.take_succ_eq_append_getElem (by simpa using hlt)]; simp [sc])
        obtain ⟨r, hr⟩ : ∃ r, D[i] = r := ⟨_, rfl⟩
        rw [hr] at HPt HS e1 p2
        have H := Lib.hid (And.intro hown hb)
        clear hown hb hav hav2 p1 p3 hr e1w
        go_wp2_with fail
        refine HPt.out.mono ?_
        rintro e w3 ⟨rfl, hb3⟩
        have H3 := Lib.hid (And.intro (ownsRow_below H.out.1 hb3) (H.out.2.trans (hb3.mono H.out.2.size)))
        clear hb3
        go_wp2_with (at_builtin; refine wpList_pushm rfl (.tmp 33) (.tmp 39) 36 9 rfl w2.heap.size 1 16 (.string ByteArray.empty) Tryz.dninfo9 Tryz.underlying36 rfl (by decide) 1 [.string ⟨(ptL r).toArray⟩] rfl ?c0 _ i _ rfl _ rfl ?c3 H3.out.1 ?c1 ?c2 H3.out.2.size ?_)
        case c0 => first | rfl | (intro u hu; simp at hu; subst hu; rfl)
        case c1 => unfold maxLen; omega
        case c2 => omega
        case c3 => first | rfl | simp
        intro v' w' g1 g2
        have g3 : w'.ownsRow w2.heap.size 9 1 v' (i + 1) (sc ((D.map ptL).take (i + 1))) := by rw [HS.out]; exact g1
        have H4 := Lib.hid (And.intro g3 (H3.out.2.trans g2))
        clear g1 g2 g3
        go_wp2
        exact ⟨⟨i + 1, by omega, by go_num, H4.out.1, H4.out.2⟩, by simp [intOf]; omega⟩
      · obtain rfl : i = D.length := by omega
        rw [List.take_of_length_le (by simp)] at hown
        have H := Lib.hid (And.intro (ownsRow_base hown HDN.out.2.size) (HDN.out.2.trans (hb.mono HDN.out.2.size)))
        have HL := Lib.hid (show (D.map ptL).length = D.length by simp)
        clear hown hb
        go_wp2
        go_ret2
        exact psPost_some HI.out (by rw [HL.out]; exact H.out.1) H.out.2

/-! ### Whole -/
def whL (L : List (List UInt8)) : List UInt8 := jnL 44 true L
theorem nm_wh (D : List (List Av)) : nmL D = whL (D.map ptL) := rfl
set_option maxHeartbeats 1600000 in
set_option maxRecDepth 100000 in
theorem rwhole_any (v : Value) (L : List (List UInt8)) (hL : (whL L).length ≤ 1000000) (hn : L.length ≤ 1000000) (w : World) (h : StrR w v L) : Calls Tryz.prog 21 #[v] w (PureS (whL L) w) := by
  obtain ⟨a, c, hv, hcells⟩ := id h
  subst hv
  have HH := Lib.hid hcells
  have HJ := Lib.hid (jn_step 44 L)
  obtain ⟨R, hR⟩ : ∃ R, whL L = R := ⟨_, rfl⟩
  have HR := Lib.hid hR
  rw [hR] at hL ⊢
  clear h hcells hR
  go_enter Tryz.func21, Tryz.ntmps21
  go_wp2
  go_loop [3, 4] (fun o v => ∃ (k : Nat) (X : List UInt8), k ≤ L.length ∧ v = .int .i64 (k : Nat) ∧ o = .string ⟨X.toArray⟩ ∧ X ++ jnL 44 (decide (k = 0)) (L.drop k) = R) (fun _ v => L.length - (intOf v).toNat)
  case atStart => exact ⟨0, [], by omega, rfl, rfl, HR.out⟩
  case round =>
    obtain ⟨k, X, hk, rfl, rfl, hinv⟩ := hrel
    by_cases hlt : k < L.length
    · have hkl : (k : Int) < (L.length : Int) := by omega
      obtain ⟨g, o, rfl, hg, e1⟩ := HH.out k hlt
      rw [HJ.out k hlt] at hinv
      obtain ⟨x, hx⟩ : ∃ x, L[k] = x := ⟨_, rfl⟩
      rw [hx] at e1 hinv
      have hlen := congrArg List.length hinv
      by_cases hk0 : k = 0
      · rw [if_pos hk0, List.nil_append, ← List.append_assoc] at hinv
        rw [if_pos hk0] at hlen
        simp only [List.length_append, List.length_nil] at hlen
        have hl1 : ¬ (9223372036854775807 < X.length + x.length) := by omega
        have q : ¬ ((0 : Int) < (k : Int)) := by omega
        have HI := Lib.hid hinv
        clear hinv hlen hk0 hx
        go_wp2
        exact ⟨⟨k + 1, X ++ x, by omega, by go_num, by rw [cat_l], HI.out⟩, by simp [intOf]; omega⟩
      · rw [if_neg hk0] at hinv hlen
        simp only [List.length_append, List.length_cons, List.length_nil] at hlen
        have hl1 : ¬ (9223372036854775807 < X.length + 1 + x.length) := by omega
        have hl2 : ¬ (9223372036854775807 < X.length + 1) := by omega
        have q : ((0 : Int) < (k : Int)) := by omega
        have HI := Lib.hid (show (X ++ [44] ++ x) ++ jnL 44 (decide (k + 1 = 0)) (L.drop (k + 1)) = R by rw [← hinv]; simp)
        clear hinv hlen hk0 hx
        go_wp2
        exact ⟨⟨k + 1, X ++ [44] ++ x, by omega, by go_num, by rw [show (⟨#[44]⟩ : ByteArray) = ⟨[44].toArray⟩ from rfl, cat_l, cat_l], HI.out⟩, by simp [intOf]; omega⟩
    · obtain rfl : k = L.length := by omega
      rw [jn_end, List.append_nil] at hinv
      have HI := Lib.hid hinv.symm
      clear hinv
      go_wp2
      go_ret
      exact ⟨by rw [HI.out]; rfl, rfl⟩

/-! ### ends -/
def endL (L B : List (List UInt8)) : Bool := decide (B.length ≤ L.length) && (L.drop (L.length - B.length) == B)
theorem end_long {L B : List (List UInt8)} (h : L.length < B.length) : endL L B = false := by unfold endL; simp; omega
theorem end_step {L B : List (List UInt8)} (h : B.length ≤ L.length) (k : Nat) (hk : k < B.length) (hne : L[L.length - B.length + k]'(by omega) ≠ B[k]) : endL L B = false := by
  unfold endL
  rw [Bool.and_eq_false_iff]
  right
  rw [beq_eq_false_iff_ne]
  intro e
  apply hne
  have := congrArg (fun l => l[k]?) e
  simp only [List.getElem?_drop] at this
  rw [List.getElem?_eq_getElem (by omega), List.getElem?_eq_getElem hk] at this
  exact Option.some.inj this
theorem end_all {L B : List (List UInt8)} (h : B.length ≤ L.length) (ha : ∀ k (hk : k < B.length), L[L.length - B.length + k]'(by omega) = B[k]) : endL L B = true := by
  unfold endL
  rw [Bool.and_eq_true]
  refine ⟨by simpa using h, ?_⟩
  rw [beq_iff_eq]
  apply List.ext_getElem (by simp; omega)
  intro k h1 h2
  rw [List.getElem_drop]
  exact ha k h2
set_option maxHeartbeats 1600000 in
set_option maxRecDepth 100000 in
theorem rends_any (v u : Value) (L B : List (List UInt8)) (hLn : L.length ≤ 1000000) (w : World) (h : StrR w v L) (h2 : StrR w u B) : Calls Tryz.prog 26 #[v, u] w (BoolPost (endL L B) w) := by
  obtain ⟨a, c, hv, hcells⟩ := id h
  obtain ⟨a2, c2, hu, hcells2⟩ := id h2
  subst hv hu
  have HH := Lib.hid (And.intro hcells hcells2)
  obtain ⟨m, hm⟩ : ∃ m, B.length = m := ⟨_, rfl⟩
  obtain ⟨n, hn⟩ : ∃ n, L.length = n := ⟨_, rfl⟩
  by_cases hlong : n < m
  · have HR := Lib.hid (end_long (L := L) (B := B) (by omega))
    have q : (n : Int) < (m : Int) := by omega
    rw [hm, hn]
    clear h h2 hcells hcells2 hlong hm hn
    go_enter Tryz.func26, Tryz.ntmps26
    go_wp2
    go_ret
    exact boolPost_mk HR.out (Below.refl _ _)
  · have HE := Lib.hid (fun k hk => end_step (L := L) (B := B) (by omega) k hk)
    have HA := Lib.hid (end_all (L := L) (B := B) (by omega))
    have q : ¬ (n : Int) < (m : Int) := by omega
    have HMN := Lib.hid (And.intro hm hn)
    obtain ⟨R, hR⟩ : ∃ R, endL L B = R := ⟨_, rfl⟩
    rw [hR] at HE HA ⊢
    rw [hm, hn]
    clear h h2 hcells hcells2 hR
    go_enter Tryz.func26, Tryz.ntmps26
    go_wp2
    go_loopw [5] (fun v wr => ∃ k : Nat, k ≤ m ∧ v = .int .i64 (k : Nat) ∧ Below w.heap.size w wr ∧ ∀ j (hj : j < B.length), j < k → L[L.length - B.length + j]'(by omega) = B[j]) (fun v _ => m - (intOf v).toNat)
    case atStart => exact ⟨0, by omega, rfl, Below.refl _ _, fun j _ h => by omega⟩
    case round =>
      obtain ⟨k, hk, rfl, hb, hall⟩ := hrel
      by_cases hlt : k < m
      · have hkl : (k : Int) < (m : Int) := by omega
        have hp : L.length - B.length + k < L.length := by omega
        obtain ⟨g, o, rfl, hg, e1w⟩ := HH.out.1 (L.length - B.length + k) hp
        obtain ⟨g2, o2, rfl, hg2, e2w⟩ := HH.out.2 k (by omega)
        have e1 := (hb.cell (p := ⟨g, _, none⟩) hg).trans e1w
        have e2 := (hb.cell (p := ⟨g2, _, none⟩) hg2).trans e2w
        have HEk := Lib.hid (HE.out k (by omega))
        obtain ⟨z, hz⟩ : ∃ z, L.length - B.length + k = z := ⟨_, rfl⟩
        have hzi : (n : Int) - (m : Int) + (k : Int) = (z : Int) := by omega
        obtain ⟨x, hx⟩ : ∃ x, L[L.length - B.length + k] = x := ⟨_, rfl⟩
        obtain ⟨y, hy⟩ : ∃ y, B[k]'(by omega) = y := ⟨_, rfl⟩
        rw [hx, hz] at e1
        rw [hy] at e2
        rw [hx, hy] at HEk
        have hzn : (z : Int) < (n : Int) := by omega
        have w1 : IntKind.i64.wrap ((n : Int) - (m : Int)) = (n : Int) - (m : Int) := by rw [IntKind.wrap_i64]; omega
        have w2 : IntKind.i64.wrap ((n : Int) - (m : Int) + (k : Int)) = (z : Int) := by rw [IntKind.wrap_i64]; omega
        have H := Lib.hid (And.intro hb hall)
        have HXY := Lib.hid (And.intro hx hy)
        clear hb hall hx hy e1w e2w
        by_cases hxy : x = y
        · subst hxy
          go_wp2_with fail
          go_quiet (fail)
          have HB9 := Lib.hid (below_dn H.out.1 nq)
          have HAll := Lib.hid (show ∀ j (hj : j < B.length), j < k + 1 → L[L.length - B.length + j]'(by have := HMN.out; omega) = B[j] from fun j hj h => by
            by_cases hjk : j = k
            · subst hjk; exact HXY.out.1.trans HXY.out.2.symm
            · exact H.out.2 j hj (by omega))
          go_wp2
          exact ⟨⟨k + 1, by omega, by go_num, HB9.out, HAll.out⟩, by simp [intOf]; omega⟩
        · have hq : (x == y) = false := by rw [beq_eq_false_iff_ne]; exact hxy
          have HI := Lib.hid (HEk.out hxy)
          clear hxy
          go_wp2_with fail
          go_quiet (fail)
          have HB9 := Lib.hid (below_dn H.out.1 nq)
          go_wp2
          go_ret
          exact boolPost_mk HI.out HB9.out
      · have HI := Lib.hid (And.intro (HA.out fun j hj => hall j hj (by omega)) hb)
        obtain rfl : k = m := by omega
        clear hall hb
        go_wp2
        go_ret
        exact boolPost_mk HI.out.1 HI.out.2
end Go.Proofs.YtdmjnfadhlgpkaaGreatDoor
namespace Go.Proofs.YtdmjnfadhlgpkaaGreatDoor
set_option linter.unusedSimpArgs false
set_option linter.unusedVariables false
open Go Go.RowKit Go.Proofs.BerK Go.Proofs.MemK Go.Proofs.UtfK

theorem ps_none {s : List UInt8} (h : nrD s = none) : psO s = none := by unfold psO; rw [h]; rfl
theorem ps_some {s : List UInt8} {D : List (List Av)} (h : nrD s = some D) : psO s = some (D.map ptL) := by unfold psO; rw [h]; rfl
theorem und_ends {s b : List UInt8} {D E : List (List Av)} (h1 : nrD s = some D) (h2 : nrD b = some E) : undL s b = endL (D.map ptL) (E.map ptL) := by
  rw [Bool.eq_iff_iff]
  constructor
  · intro h
    obtain ⟨P, F, a1, a2⟩ := und_some h
    rw [h2] at a2
    obtain rfl := Option.some.inj a2
    rw [h1] at a1
    obtain rfl := Option.some.inj a1
    unfold endL
    rw [Bool.and_eq_true]
    refine ⟨by simp, ?_⟩
    rw [beq_iff_eq, List.map_append]
    simp
  · intro h
    unfold endL at h
    rw [Bool.and_eq_true, decide_eq_true_eq, beq_iff_eq] at h
    obtain ⟨hl, he⟩ := h
    obtain ⟨m, hm⟩ : ∃ m, (D.map ptL).length - (E.map ptL).length = m := ⟨_, rfl⟩
    rw [← List.map_drop, hm] at he
    have hg := (nr_some h1).2
    have hx := nm_inj (gd_drop hg m) (nr_some h2).2 (show nmL _ = nmL E by rw [nm_wh, nm_wh, he])
    exact und_of (P := D.take m) (by rw [← hx, List.take_append_drop]; exact h1) h2
theorem und_no {s b : List UInt8} (h : nrD s = none ∨ nrD b = none) : undL s b = false := by
  cases hu : undL s b with
  | false => rfl
  | true =>
    obtain ⟨P, E, a1, a2⟩ := und_some hu
    rcases h with h | h
    · rw [h] at a1; cases a1
    · rw [h] at a2; cases a2
theorem wh_len {D : List (List Av)} (h : GD D) : (whL (D.map ptL)).length ≤ 1000000 := by have := h.2.2; rw [nm_wh] at this; omega
theorem dep_bounds (s : List UInt8) : -1 ≤ depL s ∧ depL s ≤ 32 := by
  unfold depL
  cases h : nrD s with
  | none => simp
  | some D => have := (nr_some h).2.1; simp; omega

set_option maxHeartbeats 1600000 in
set_option maxRecDepth 100000 in
theorem rdepth7_any (s : List UInt8) (w : World) : Calls Tryz.prog 16 #[.string ⟨s.toArray⟩] w (DepPost (depL s) w) := by
  have HP := Lib.hid (rparts_any s w)
  by_cases h : nrD s = none
  · have HO := Lib.hid (dep_none h)
    rw [ps_none h] at HP
    change Hid (Calls Tryz.prog _ _ w fun en w' => en = .returned (.tuple #[.slice none 0 0, .bool false]) ∧ Below w.heap.size w w') at HP
    clear h
    go_enter Tryz.func16, Tryz.ntmps16
    go_wp2_with fail
    refine HP.out.mono ?_
    rintro e w1 ⟨rfl, hb⟩
    go_wp2
    go_ret
    exact depPost_mk HO.out hb
  · obtain ⟨D, h⟩ := Option.ne_none_iff_exists'.1 h
    have HO := Lib.hid (dep_some h)
    rw [ps_some h] at HP
    change Hid (Calls Tryz.prog _ _ w fun en w' => ∃ v, en = .returned (.tuple #[v, .bool true]) ∧ w'.ownsRow w.heap.size _ 1 v (D.map ptL).length (sc (D.map ptL)) ∧ Below w.heap.size w w') at HP
    clear h
    go_enter Tryz.func16, Tryz.ntmps16
    go_wp2_with fail
    refine HP.out.mono ?_
    rintro e w1 ⟨v, rfl, hown, hb⟩
    obtain ⟨a, c, rfl⟩ := ownsRow_slice hown
    clear hown
    go_wp2
    go_ret
    exact depPost_mk (by rw [HO.out]; try simp) hb

set_option maxHeartbeats 1600000 in
set_option maxRecDepth 100000 in
theorem rparent_any (s : List UInt8) (w : World) : Calls Tryz.prog 8 #[.string ⟨s.toArray⟩] w (SbPost (parL s) w) := by
  have HP := Lib.hid (rparts_any s w)
  rcases nr_ways s with h | ⟨r, D, h⟩
  · have HO := Lib.hid (par_none h)
    have hp : psO s = none ∨ psO s = some [] := by
      rcases h with h | h
      · exact .inl (ps_none h)
      · exact .inr (ps_some h)
    rcases hp with hp | hp
    · rw [hp] at HP
      change Hid (Calls Tryz.prog _ _ w fun en w' => en = .returned (.tuple #[.slice none 0 0, .bool false]) ∧ Below w.heap.size w w') at HP
      clear h hp
      go_enter Tryz.func8, Tryz.ntmps8
      go_wp2_with fail
      refine HP.out.mono ?_
      rintro e w1 ⟨rfl, hb⟩
      go_wp2
      go_ret2
      exact sbPost_mk (a := []) (b := false) HO.out hb
    · rw [hp] at HP
      change Hid (Calls Tryz.prog _ _ w fun en w' => ∃ v, en = .returned (.tuple #[v, .bool true]) ∧ w'.ownsRow w.heap.size _ 1 v 0 [] ∧ Below w.heap.size w w') at HP
      clear h hp
      go_enter Tryz.func8, Tryz.ntmps8
      go_wp2_with fail
      refine HP.out.mono ?_
      rintro e w1 ⟨v, rfl, hown, hb⟩
      obtain ⟨a, c, rfl⟩ := ownsRow_slice hown
      clear hown
      go_wp2
      go_ret2
      exact sbPost_mk (a := []) (b := false) HO.out hb
  · have HO := Lib.hid (par_cons h)
    obtain ⟨hs, hg⟩ := nr_some h
    have hwl := wh_len (gd_cons hg).2
    have hdl : (D.map ptL).length ≤ 1000000 := by have := hg.1; simp at this ⊢; omega
    rw [ps_some h] at HP
    rw [List.map_cons] at HP
    obtain ⟨L, hL⟩ : ∃ L, D.map ptL = L := ⟨_, rfl⟩
    have HNm := Lib.hid (show nmL D = whL L by rw [nm_wh, hL])
    rw [hL] at HP hwl hdl
    obtain ⟨x, hx⟩ : ∃ x, ptL r = x := ⟨_, rfl⟩
    rw [hx] at HP
    change Hid (Calls Tryz.prog _ _ w fun en w' => ∃ v, en = .returned (.tuple #[v, .bool true]) ∧ w'.ownsRow w.heap.size _ 1 v (x :: L).length (sc (x :: L)) ∧ Below w.heap.size w w') at HP
    clear h hs hg hL hx
    go_enter Tryz.func8, Tryz.ntmps8
    go_wp2_with fail
    refine HP.out.mono ?_
    rintro e w1 ⟨v, rfl, hown, hb⟩
    rcases hown.2 with ⟨_, h0⟩ | ⟨g, cap, cur, hv, _, hgg, hnc, _⟩
    · exact absurd h0 (by simp)
    subst hv
    have hnc' : L.length + 1 ≤ cap := by simpa using hnc
    have hc1 : (1 : Int) ≤ (L.length : Int) + 1 := by omega
    have HB := Lib.hid hb
    have hT : ∀ o c2, (o = 1 ∨ (x :: L).length ≤ 1) → Calls Tryz.prog 21 #[.slice (some ⟨g, o, none⟩) L.length c2] w1 (PureS (whL L) w1) := fun o c2 ho => by
      have := strR_tail (c2 := c2) hown o ho
      simp only [List.length_cons, Nat.add_sub_cancel, List.drop_succ_cons, List.drop_zero] at this
      exact rwhole_any _ L hwl hdl w1 this
    have HT := Lib.hid hT
    clear hown hb hgg hnc hT
    have hcap : cap = 1 ∨ ¬ cap = 1 := Decidable.em _
    rcases hcap with hcap | hcap
    · have hle : (x :: L).length ≤ 1 := by show L.length + 1 ≤ 1; omega
      have hL0 : L = [] := List.eq_nil_of_length_eq_zero (by omega)
      have HT0 : Hid (Calls Tryz.prog 21 #[.slice (some ⟨g, 0, none⟩) 0 0] w1 (PureS (whL L) w1)) := Lib.hid (by have := HT.out 0 0 (.inr hle); rw [hL0] at this ⊢; exact this)
      subst hcap
      clear hL0
      go_wp2_with (go_at_call 21; (with_reducible refine HT0.out.mono ?_); rintro e w2 ⟨rfl, hw⟩; obtain rfl := hw.symm; clear hw)
      go_ret2
      exact sbPost_mk (by rw [HO.out, HNm.out]) HB.out
    · go_wp2_with (go_at_call 21; (with_reducible refine (HT.out 1 _ (.inl rfl)).mono ?_); rintro e w2 ⟨rfl, hw⟩; obtain rfl := hw.symm; clear hw)
      go_ret2
      exact sbPost_mk (by rw [HO.out, HNm.out]) HB.out

set_option maxHeartbeats 1600000 in
set_option maxRecDepth 100000 in
theorem rleaf_any (s : List UInt8) (w : World) : Calls Tryz.prog 10 #[.string ⟨s.toArray⟩] w (SbPost (leafL s) w) := by
  have HP := Lib.hid (rparts_any s w)
  rcases nr_ways s with h | ⟨r, D, h⟩
  · have HO := Lib.hid (leaf_none h)
    have hp : psO s = none ∨ psO s = some [] := by
      rcases h with h | h
      · exact .inl (ps_none h)
      · exact .inr (ps_some h)
    rcases hp with hp | hp
    · rw [hp] at HP
      change Hid (Calls Tryz.prog _ _ w fun en w' => en = .returned (.tuple #[.slice none 0 0, .bool false]) ∧ Below w.heap.size w w') at HP
      clear h hp
      go_enter Tryz.func10, Tryz.ntmps10
      go_wp2_with fail
      refine HP.out.mono ?_
      rintro e w1 ⟨rfl, hb⟩
      go_wp2
      go_ret2
      exact sbPost_mk (a := []) (b := false) HO.out hb
    · rw [hp] at HP
      change Hid (Calls Tryz.prog _ _ w fun en w' => ∃ v, en = .returned (.tuple #[v, .bool true]) ∧ w'.ownsRow w.heap.size _ 1 v 0 [] ∧ Below w.heap.size w w') at HP
      clear h hp
      go_enter Tryz.func10, Tryz.ntmps10
      go_wp2_with fail
      refine HP.out.mono ?_
      rintro e w1 ⟨v, rfl, hown, hb⟩
      obtain ⟨a, c, rfl⟩ := ownsRow_slice hown
      clear hown
      go_wp2
      go_ret2
      exact sbPost_mk (a := []) (b := false) HO.out hb
  · have HO := Lib.hid (leaf_cons h)
    rw [ps_some h] at HP
    rw [List.map_cons] at HP
    obtain ⟨L, hL⟩ : ∃ L, D.map ptL = L := ⟨_, rfl⟩
    rw [hL] at HP
    obtain ⟨x, hx⟩ : ∃ x, ptL r = x := ⟨_, rfl⟩
    rw [hx] at HP HO
    change Hid (Calls Tryz.prog _ _ w fun en w' => ∃ v, en = .returned (.tuple #[v, .bool true]) ∧ w'.ownsRow w.heap.size _ 1 v (x :: L).length (sc (x :: L)) ∧ Below w.heap.size w w') at HP
    clear h hL hx
    go_enter Tryz.func10, Tryz.ntmps10
    go_wp2_with fail
    refine HP.out.mono ?_
    rintro e w1 ⟨v, rfl, hown, hb⟩
    obtain ⟨a, c, hv, hc⟩ := strR_owns hown
    obtain ⟨g, o, rfl, hg, e1⟩ := hc 0 (by simp)
    simp only [List.length_cons, List.getElem_cons_zero, Nat.add_zero] at hv e1
    subst hv
    have hpos : (0 : Int) < (L.length : Int) + 1 := by omega
    have HB := Lib.hid hb
    clear hown hb hc
    go_wp2
    go_ret2
    exact sbPost_mk HO.out HB.out

set_option maxHeartbeats 3200000 in
set_option maxRecDepth 100000 in
theorem runder_any (s b : List UInt8) (w : World) : Calls Tryz.prog 18 #[.string ⟨s.toArray⟩, .string ⟨b.toArray⟩] w (BoolPost (undL s b) w) := by
  have HP := Lib.hid (rparts_any s w)
  have HQ := Lib.hid (fun w => rparts_any b w)
  by_cases h : nrD s = none
  · have HO := Lib.hid (und_no (b := b) (.inl h))
    rw [ps_none h] at HP
    change Hid (Calls Tryz.prog _ _ w fun en w' => en = .returned (.tuple #[.slice none 0 0, .bool false]) ∧ Below w.heap.size w w') at HP
    obtain ⟨o, ho⟩ : ∃ o, psO b = o := ⟨_, rfl⟩
    rw [ho] at HQ
    clear h ho
    go_enter Tryz.func18, Tryz.ntmps18
    go_wp2_with fail
    refine HP.out.mono ?_
    rintro e w1 ⟨rfl, hb⟩
    have HB := Lib.hid hb
    clear hb
    cases o with
    | none =>
      change Hid (∀ w, Calls Tryz.prog _ _ w fun en w' => en = .returned (.tuple #[.slice none 0 0, .bool false]) ∧ Below w.heap.size w w') at HQ
      go_wp2_with fail
      refine (HQ.out _).mono ?_
      rintro e w2 ⟨rfl, hb2⟩
      have HB2 := Lib.hid (HB.out.trans (hb2.mono HB.out.size))
      clear hb2
      go_wp2
      go_ret
      exact boolPost_mk HO.out HB2.out
    | some L =>
      change Hid (∀ w, Calls Tryz.prog _ _ w fun en w' => ∃ v, en = .returned (.tuple #[v, .bool true]) ∧ w'.ownsRow w.heap.size _ 1 v L.length (sc L) ∧ Below w.heap.size w w') at HQ
      go_wp2_with fail
      refine (HQ.out _).mono ?_
      rintro e w2 ⟨v, rfl, hown, hb2⟩
      obtain ⟨a, c, rfl⟩ := ownsRow_slice hown
      have HB2 := Lib.hid (HB.out.trans (hb2.mono HB.out.size))
      clear hb2 hown
      go_wp2
      go_ret
      exact boolPost_mk HO.out HB2.out
  · obtain ⟨D, h⟩ := Option.ne_none_iff_exists'.1 h
    have hDl : (D.map ptL).length ≤ 1000000 := by have := (nr_some h).2.1; simp; omega
    rw [ps_some h] at HP
    obtain ⟨L, hL⟩ : ∃ L, D.map ptL = L := ⟨_, rfl⟩
    rw [hL] at HP hDl
    change Hid (Calls Tryz.prog _ _ w fun en w' => ∃ v, en = .returned (.tuple #[v, .bool true]) ∧ w'.ownsRow w.heap.size _ 1 v L.length (sc L) ∧ Below w.heap.size w w') at HP
    by_cases h2 : nrD b = none
    · have HO := Lib.hid (und_no (s := s) (.inr h2))
      rw [ps_none h2] at HQ
      change Hid (∀ w, Calls Tryz.prog _ _ w fun en w' => en = .returned (.tuple #[.slice none 0 0, .bool false]) ∧ Below w.heap.size w w') at HQ
      clear h h2 hL
      go_enter Tryz.func18, Tryz.ntmps18
      go_wp2_with fail
      refine HP.out.mono ?_
      rintro e w1 ⟨v, rfl, hown, hb⟩
      obtain ⟨a, c, rfl⟩ := ownsRow_slice hown
      have HB := Lib.hid hb
      clear hb hown
      go_wp2_with fail
      refine (HQ.out _).mono ?_
      rintro e w2 ⟨rfl, hb2⟩
      have HB2 := Lib.hid (HB.out.trans (hb2.mono HB.out.size))
      clear hb2
      go_wp2
      go_ret
      exact boolPost_mk HO.out HB2.out
    · obtain ⟨E, h2⟩ := Option.ne_none_iff_exists'.1 h2
      rw [ps_some h2] at HQ
      have HO := Lib.hid (und_ends h h2)
      obtain ⟨M, hM⟩ : ∃ M, E.map ptL = M := ⟨_, rfl⟩
      rw [hM] at HQ HO
      rw [hL] at HO
      change Hid (∀ w, Calls Tryz.prog _ _ w fun en w' => ∃ v, en = .returned (.tuple #[v, .bool true]) ∧ w'.ownsRow w.heap.size _ 1 v M.length (sc M) ∧ Below w.heap.size w w') at HQ
      clear h h2 hL hM
      go_enter Tryz.func18, Tryz.ntmps18
      go_wp2_with fail
      refine HP.out.mono ?_
      rintro e w1 ⟨v, rfl, hown, hb⟩
      obtain ⟨a, c, rfl⟩ := ownsRow_slice hown
      have HB := Lib.hid (And.intro hb (strR_owns hown))
      clear hb hown
      go_wp2_with fail
      refine (HQ.out _).mono ?_
      rintro e w2 ⟨v2, rfl, hown2, hb2⟩
      obtain ⟨a2, c2, rfl⟩ := ownsRow_slice hown2
      have HE := Lib.hid (rends_any _ _ L M hDl w2 (strR_below HB.out.2 hb2) (strR_owns hown2))
      have HB2 := Lib.hid (HB.out.1.trans (hb2.mono HB.out.1.size))
      clear hb2 hown2
      go_wp2_with fail
      refine HE.out.mono ?_
      rintro e w3 ⟨rfl, hb3⟩
      have HB3 := Lib.hid (HB2.out.trans (hb3.mono HB2.out.size))
      clear hb3
      go_wp2
      go_ret
      exact boolPost_mk HO.out HB3.out
end Go.Proofs.YtdmjnfadhlgpkaaGreatDoor
namespace Go.Proofs.YtdmjnfadhlgpkaaGreatDoor
set_option linter.unusedSimpArgs false
set_option linter.unusedVariables false
open Go Go.RowKit Go.Proofs.BerK Go.Proofs.MemK Go.Proofs.UtfK

theorem txs_sc (L : List (List UInt8)) : ∀ v ∈ sc L, v.oneCell' = true := sc_one_cell L
theorem txs_app {w : World} {B : Nat} {e : TypeId} {v : Value} {n : Nat} {xs : List Value} {L : List (List UInt8)} (h : w.ownsRow B e 1 v n xs) (h1 : n = L.length) (h2 : xs = sc L) : w.ownsRow B e 1 v L.length (sc L) := by subst h1 h2; exact h
theorem join_not {r a : List UInt8} {D : List (List Av)} (h : nrD r = some D) (h1 : D.length ≠ 1) : joinL r a = ([], 13) := join_no (.inl (by rw [dep_some h]; omega))
theorem join_nil {r a : List UInt8} (h : nrD r = none ∨ nrD a = none) : joinL r a = ([], 13) := by
  rcases h with h | h
  · exact join_no (.inl (by rw [dep_none h]; decide))
  · exact join_no (.inr h)
theorem wh_app (D E : List (List Av)) : whL (D.map ptL ++ E.map ptL) = nmL (D ++ E) := by rw [nm_wh, List.map_append]
theorem nm_le {D E : List (List Av)} (hD : GD D) (hE : GD E) : (nmL (D ++ E)).length ≤ 1000000 := by
  rw [nm_app (fun r hr => nr_ne (hD.2.1 r hr)) (fun r hr => nr_ne (hE.2.1 r hr))]
  have := ch_le (nmL D) (nmL E)
  have := hD.2.2
  have := hE.2.2
  omega
/-- What Join and Move tell of the whole. -/
theorem jo_long {P E : List (List Av)} (h : 32 < P.length + E.length) : joL P E = none := by unfold joL; rw [if_pos (.inl h)]
theorem jo_big {P E : List (List Av)} (h : 4096 < (nmL (P ++ E)).length) : joL P E = none := by unfold joL; rw [if_pos (.inr h)]
theorem jo_fit {P E : List (List Av)} (h : ¬ 32 < P.length + E.length) (h2 : ¬ 4096 < (nmL (P ++ E)).length) : joL P E = some (nmL (P ++ E)) := by unfold joL; rw [if_neg (by omega)]

set_option maxHeartbeats 6400000 in
set_option maxRecDepth 100000 in
theorem rjoin7_any (r a : List UInt8) (w : World) : Calls Tryz.prog 12 #[.string ⟨r.toArray⟩, .string ⟨a.toArray⟩] w (PutPost (joinL r a) w) := by
  have HP := Lib.hid (rparts_any r w)
  have HQ := Lib.hid (fun w => rparts_any a w)
  by_cases hbad : nrD r = none ∨ nrD a = none
  · have HO := Lib.hid (join_nil hbad)
    have hps : psO r = none ∨ psO a = none := by
      rcases hbad with h | h
      · exact .inl (ps_none h)
      · exact .inr (ps_none h)
    obtain ⟨o1, ho1⟩ : ∃ o, psO r = o := ⟨_, rfl⟩
    obtain ⟨o2, ho2⟩ : ∃ o, psO a = o := ⟨_, rfl⟩
    rw [ho1] at HP hps
    rw [ho2] at HQ hps
    clear hbad ho1 ho2
    cases o1 with
    | none =>
      change Hid (Calls Tryz.prog _ _ w fun en w' => en = .returned (.tuple #[.slice none 0 0, .bool false]) ∧ Below w.heap.size w w') at HP
      go_enter Tryz.func12, Tryz.ntmps12
      go_wp2_with fail
      refine HP.out.mono ?_
      rintro e w1 ⟨rfl, hb⟩
      have HB := Lib.hid hb
      clear hb
      cases o2 with
      | none =>
        change Hid (∀ w, Calls Tryz.prog _ _ w fun en w' => en = .returned (.tuple #[.slice none 0 0, .bool false]) ∧ Below w.heap.size w w') at HQ
        go_wp2_with fail
        refine (HQ.out _).mono ?_
        rintro e w2 ⟨rfl, hb2⟩
        have HB2 := Lib.hid (HB.out.trans (hb2.mono HB.out.size))
        clear hb2
        go_wp2
        go_ret2
        exact putPost_mk (a := []) (n := 13) HO.out HB2.out
      | some L =>
        change Hid (∀ w, Calls Tryz.prog _ _ w fun en w' => ∃ v, en = .returned (.tuple #[v, .bool true]) ∧ w'.ownsRow w.heap.size _ 1 v L.length (sc L) ∧ Below w.heap.size w w') at HQ
        go_wp2_with fail
        refine (HQ.out _).mono ?_
        rintro e w2 ⟨v, rfl, hown, hb2⟩
        have HB2 := Lib.hid (HB.out.trans (hb2.mono HB.out.size))
        clear hb2 hown
        go_wp2
        go_ret2
        exact putPost_mk (a := []) (n := 13) HO.out HB2.out
    | some L =>
      have hn2 : o2 = none := by
        rcases hps with h | h
        · cases h
        · exact h
      subst hn2
      change Hid (Calls Tryz.prog _ _ w fun en w' => ∃ v, en = .returned (.tuple #[v, .bool true]) ∧ w'.ownsRow w.heap.size _ 1 v L.length (sc L) ∧ Below w.heap.size w w') at HP
      change Hid (∀ w, Calls Tryz.prog _ _ w fun en w' => en = .returned (.tuple #[.slice none 0 0, .bool false]) ∧ Below w.heap.size w w') at HQ
      go_enter Tryz.func12, Tryz.ntmps12
      go_wp2_with fail
      refine HP.out.mono ?_
      rintro e w1 ⟨v, rfl, hown, hb⟩
      obtain ⟨a1, c1, rfl⟩ := ownsRow_slice hown
      have HB := Lib.hid hb
      clear hb hown
      go_wp2_with fail
      refine (HQ.out _).mono ?_
      rintro e w2 ⟨rfl, hb2⟩
      have HB2 := Lib.hid (HB.out.trans (hb2.mono HB.out.size))
      clear hb2
      go_wp2
      go_ret2
      exact putPost_mk (a := []) (n := 13) HO.out HB2.out
  · rw [not_or] at hbad
    obtain ⟨D, h1⟩ := Option.ne_none_iff_exists'.1 hbad.1
    obtain ⟨E, h2⟩ := Option.ne_none_iff_exists'.1 hbad.2
    rw [ps_some h1] at HP
    rw [ps_some h2] at HQ
    have hg1 := (nr_some h1).2
    have hg2 := (nr_some h2).2
    have hD32 := hg1.1
    have hE32 := hg2.1
    by_cases hone : D.length = 1
    · obtain ⟨x, rfl⟩ : ∃ x, D = [x] := List.length_eq_one_iff.1 hone
      have HO := Lib.hid (join_yes h1 h2)
      have hbig := nm_le hg1 hg2
      have HL1 := Lib.hid (jo_long (P := [x]) (E := E))
      have HL2 := Lib.hid (jo_big (P := [x]) (E := E))
      have HL3 := Lib.hid (jo_fit (P := [x]) (E := E))
      rw [← wh_app] at hbig HL2 HL3
      simp only [List.length_cons, List.length_nil, Nat.zero_add] at HL1 HL3
      obtain ⟨oj, hoj⟩ : ∃ o, joL [x] E = o := ⟨_, rfl⟩
      rw [hoj] at HO HL1 HL2 HL3
      have hML : (E.map ptL).length = E.length := by simp
      rw [← hML] at HL1 HL3 hE32
      obtain ⟨M, hM⟩ : ∃ M, E.map ptL = M := ⟨_, rfl⟩
      rw [hM] at HQ hbig HL1 HL2 HL3 hE32
      change Hid (Calls Tryz.prog _ _ w (PsPost (some [ptL x]) _ w)) at HP
      change (whL ([ptL x] ++ M)).length ≤ 1000000 at hbig
      change Hid (4096 < (whL ([ptL x] ++ M)).length → _) at HL2
      change Hid (_ → ¬ 4096 < (whL ([ptL x] ++ M)).length → oj = some (whL ([ptL x] ++ M))) at HL3
      obtain ⟨y, hy⟩ : ∃ y, ptL x = y := ⟨_, rfl⟩
      rw [hy] at HP hbig HL2 HL3
      obtain ⟨W, hW⟩ : ∃ W, whL ([y] ++ M) = W := ⟨_, rfl⟩
      have HWh := Lib.hid (fun v w h => rwhole_any v ([y] ++ M) hbig (by simp; omega) w h)
      rw [hW] at hbig HL2 HL3 HWh
      change Hid (Calls Tryz.prog _ _ w fun en w' => ∃ v, en = .returned (.tuple #[v, .bool true]) ∧ w'.ownsRow w.heap.size _ 1 v 1 (sc [y]) ∧ Below w.heap.size w w') at HP
      change Hid (∀ w, Calls Tryz.prog _ _ w fun en w' => ∃ v, en = .returned (.tuple #[v, .bool true]) ∧ w'.ownsRow w.heap.size _ 1 v M.length (sc M) ∧ Below w.heap.size w w') at HQ
      clear h1 h2 hg1 hg2 hD32 hone hbad hoj hML hM hy hW
      go_enter Tryz.func12, Tryz.ntmps12
      go_wp2_with fail
      refine HP.out.mono ?_
      rintro e w1 ⟨v, rfl, hown, hb⟩
      obtain ⟨a1, c1, rfl⟩ := ownsRow_slice hown
      have HB := Lib.hid (And.intro hb hown)
      clear hb hown
      go_wp2_with fail
      refine (HQ.out _).mono ?_
      rintro e w2 ⟨v2, rfl, hown2, hb2⟩
      obtain ⟨a2, c2, rfl⟩ := ownsRow_slice hown2
      have HB2 := Lib.hid (And.intro (HB.out.1.trans (hb2.mono HB.out.1.size)) (And.intro (ownsRow_below HB.out.2 hb2) hown2))
      clear hb2 hown2
      go_wp2_with (at_builtin; refine wpList_appendr rfl (.tmp 32) (.tmp 33) 36 9 rfl w2.heap.size 1 16 (.string ByteArray.empty) Tryz.dninfo9 Tryz.underlying36 rfl (by decide) (.slice none 0 0) 0 [] rfl (World.ownsRow_nil _ _ _ _) _ 1 (sc [y]) rfl (rdRow_owns HB2.out.2.1) (txs_sc _) ?c1 ?c2 (Nat.le_refl _) ?_)
      case c1 => unfold maxLen; omega
      case c2 => omega
      intro v3 w3 g1 g2 g3
      have o3 := txs_app (L := [y]) g1 (by simp) (by simp)
      obtain ⟨a3, c3, rfl⟩ := ownsRow_slice o3
      have hb3 := chg_nil g2
      have HB3 := Lib.hid (And.intro o3 (And.intro hb3 (rdRow_below (rdRow_owns HB2.out.2.2) hb3)))
      clear g1 g2 g3 o3 hb3
      go_wp2_with (at_builtin; refine wpList_appendr rfl (.tmp 35) (.tmp 36) 36 9 rfl w2.heap.size 1 16 (.string ByteArray.empty) Tryz.dninfo9 Tryz.underlying36 rfl (by decide) _ ([y] : List (List UInt8)).length (sc [y]) rfl HB3.out.1 _ M.length (sc M) rfl HB3.out.2.2 (txs_sc _) ?c1 ?c2 HB3.out.2.1.size ?_)
      case c1 => unfold maxLen; simp; omega
      case c2 => simp; omega
      intro v4 w4 g1 g2 g3
      have o4 := txs_app (L := [y] ++ M) g1 (by simp; try omega) (by simp [sc])
      obtain ⟨a4, c4, rfl⟩ := ownsRow_slice o4
      have hb4 : Below w.heap.size w w4 := HB2.out.1.trans ((below_chg HB3.out.2.1 HB3.out.2.1.size HB3.out.1 (by first | exact g2 | simpa using g2)).mono HB2.out.1.size)
      have HW4 := Lib.hid (HWh.out _ w4 (strR_owns o4))
      have HB4 := Lib.hid hb4
      have hlen : ([y] ++ M).length = M.length + 1 := by simp
      clear g1 g2 g3 o4 hb4
      rw [hlen] at HW4 ⊢
      by_cases hq : 32 < M.length + 1
      · have q : (32 : Int) < (M.length : Int) + 1 := by omega
        have HI := Lib.hid (HL1.out (by omega))
        clear hq
        go_wp2
        go_ret2
        exact putPost_mk (a := []) (n := 3) (by rw [HO.out, HI.out]; rfl) HB4.out
      · have q : ¬ (32 : Int) < (M.length : Int) + 1 := by omega
        by_cases hq2 : 4096 < W.length
        · have q2 : (4096 : Int) < (W.length : Int) := by omega
          have HI := Lib.hid (HL2.out hq2)
          clear hq hq2
          go_wp2_with (go_at_call 21; refine HW4.out.mono ?_; rintro e w5 ⟨rfl, hw⟩; obtain rfl := hw.symm; clear hw)
          go_ret2
          exact putPost_mk (a := []) (n := 3) (by rw [HO.out, HI.out]; rfl) HB4.out
        · have q2 : ¬ (4096 : Int) < (W.length : Int) := by omega
          have HI := Lib.hid (HL3.out (by omega) hq2)
          clear hq hq2
          go_wp2_with (go_at_call 21; refine HW4.out.mono ?_; rintro e w5 ⟨rfl, hw⟩; obtain rfl := hw.symm; clear hw)
          go_ret2
          exact putPost_mk (n := 0) (by rw [HO.out, HI.out]; rfl) HB4.out
    · have HO := Lib.hid (join_not (a := a) h1 hone)
      have hl : (D.map ptL).length ≠ 1 := by simpa using hone
      obtain ⟨L, hL⟩ : ∃ L, D.map ptL = L := ⟨_, rfl⟩
      obtain ⟨M, hM⟩ : ∃ M, E.map ptL = M := ⟨_, rfl⟩
      rw [hL] at HP hl
      rw [hM] at HQ
      have hq : ((L.length : Int) != 1) = true := by rw [bne_iff_ne]; omega
      change Hid (Calls Tryz.prog _ _ w fun en w' => ∃ v, en = .returned (.tuple #[v, .bool true]) ∧ w'.ownsRow w.heap.size _ 1 v L.length (sc L) ∧ Below w.heap.size w w') at HP
      change Hid (∀ w, Calls Tryz.prog _ _ w fun en w' => ∃ v, en = .returned (.tuple #[v, .bool true]) ∧ w'.ownsRow w.heap.size _ 1 v M.length (sc M) ∧ Below w.heap.size w w') at HQ
      clear h1 h2 hg1 hg2 hD32 hE32 hone hbad hL hM hl
      go_enter Tryz.func12, Tryz.ntmps12
      go_wp2_with fail
      refine HP.out.mono ?_
      rintro e w1 ⟨v, rfl, hown, hb⟩
      obtain ⟨a1, c1, rfl⟩ := ownsRow_slice hown
      have HB := Lib.hid hb
      clear hb hown
      go_wp2_with fail
      refine (HQ.out _).mono ?_
      rintro e w2 ⟨v2, rfl, hown2, hb2⟩
      have HB2 := Lib.hid (HB.out.trans (hb2.mono HB.out.size))
      clear hb2 hown2
      go_wp2
      go_ret2
      exact putPost_mk (a := []) (n := 13) HO.out HB2.out
end Go.Proofs.YtdmjnfadhlgpkaaGreatDoor
namespace Go.Proofs.YtdmjnfadhlgpkaaGreatDoor
set_option linter.unusedSimpArgs false
set_option linter.unusedVariables false
open Go Go.RowKit Go.Proofs.BerK Go.Proofs.MemK Go.Proofs.UtfK

/-- What Parts hands back, in one form. -/
theorem rparts_u (s : List UInt8) (w : World) : Calls Tryz.prog 20 #[.string ⟨s.toArray⟩] w
    (fun en w' => ∃ v, en = .returned (.tuple #[v, .bool (psO s).isSome]) ∧ w'.ownsRow w.heap.size 9 1 v ((psO s).getD []).length (sc ((psO s).getD [])) ∧ Below w.heap.size w w') := by
  refine (rparts_any s w).mono ?_
  cases psO s with
  | none => rintro e w' ⟨h1, h2⟩; exact ⟨_, h1, World.ownsRow_nil _ _ _ _, h2⟩
  | some L => rintro e w' ⟨v, h1, h2, h3⟩; exact ⟨v, h1, h2, h3⟩
theorem sc_take (L : List (List UInt8)) (k : Nat) : (sc L).take (k * 1) = sc (L.take k) := by rw [Nat.mul_one]; simp [sc, List.map_take]
theorem rd_take {w : World} {B : Nat} {e : TypeId} {g cap : Nat} {L : List (List UInt8)} (h : w.ownsRow B e 1 (.slice (some ⟨g, 0, none⟩) L.length cap) L.length (sc L)) (k : Nat) (hk : k ≤ L.length) : RdRow w 1 (.slice (some ⟨g, 0, none⟩) k cap) k (sc (L.take k)) := by
  rw [← sc_take]; exact rdRow_take h k hk
set_option maxHeartbeats 12800000 in
set_option maxRecDepth 100000 in
theorem rmove_any (s f t : List UInt8) (w : World) : Calls Tryz.prog 14 #[.string ⟨s.toArray⟩, .string ⟨f.toArray⟩, .string ⟨t.toArray⟩] w (SbPost (obL (movL s f t)) w) := by
  have HP := Lib.hid (rparts_u s w)
  have HQ := Lib.hid (fun w => rparts_u f w)
  have HT := Lib.hid (fun w => rparts_u t w)
  have HU := Lib.hid (fun w => runder_any s f w)
  by_cases hbad : undL s f = false ∨ nrD t = none
  · have HO := Lib.hid (show obL (movL s f t) = ([], false) by rw [mov_none hbad]; rfl)
    have hw : undL s f = false ∨ (undL s f = true ∧ (psO t).isSome = false) := by
      cases hu : undL s f with
      | false => exact .inl rfl
      | true =>
        refine .inr ⟨rfl, ?_⟩
        rcases hbad with h | h
        · rw [hu] at h; cases h
        · rw [ps_none h]; rfl
    obtain ⟨o1, ho1⟩ : ∃ o, psO s = o := ⟨_, rfl⟩
    obtain ⟨o2, ho2⟩ : ∃ o, psO f = o := ⟨_, rfl⟩
    obtain ⟨o3, ho3⟩ : ∃ o, psO t = o := ⟨_, rfl⟩
    obtain ⟨un, hun⟩ : ∃ u, undL s f = u := ⟨_, rfl⟩
    obtain ⟨k3, hk3⟩ : ∃ k, (psO t).isSome = k := ⟨_, rfl⟩
    rw [hk3] at HT hw
    rw [ho3] at HT
    rw [ho1] at HP
    rw [ho2] at HQ
    rw [hun] at HU hw
    clear hbad ho1 ho2 ho3 hun hk3
    rcases hw with rfl | ⟨rfl, rfl⟩
    all_goals
      go_enter Tryz.func14, Tryz.ntmps14
      go_wp2_with fail
      refine HP.out.mono ?_
      rintro e w1 ⟨v1, rfl, hown1, hb1⟩
      obtain ⟨a1, c1, rfl⟩ := ownsRow_slice hown1
      have HB1 := Lib.hid hb1
      clear hb1 hown1
      go_wp2_with fail
      refine (HQ.out _).mono ?_
      rintro e w2 ⟨v2, rfl, hown2, hb2⟩
      obtain ⟨a2, c2, rfl⟩ := ownsRow_slice hown2
      have HB2 := Lib.hid (HB1.out.trans (hb2.mono HB1.out.size))
      clear hb2 hown2
      go_wp2_with fail
      refine (HT.out _).mono ?_
      rintro e w3 ⟨v3, rfl, hown3, hb3⟩
      obtain ⟨a3, c3, rfl⟩ := ownsRow_slice hown3
      have HB3 := Lib.hid (HB2.out.trans (hb3.mono HB2.out.size))
      clear hb3 hown3
      go_wp2_with fail
      refine (HU.out _).mono ?_
      rintro e w4 ⟨rfl, hb4⟩
      have HB4 := Lib.hid (HB3.out.trans (hb4.mono HB3.out.size))
      clear hb4
      go_wp2
      go_ret2
      exact sbPost_mk (a := []) (b := false) HO.out HB4.out
  · rw [not_or] at hbad
    have hut : undL s f = true := by simpa using hbad.1
    obtain ⟨E, h3⟩ := Option.ne_none_iff_exists'.1 hbad.2
    obtain ⟨P, F, h1, h2⟩ := und_some hut
    have hg := (nr_some h1).2
    have hgE := (nr_some h3).2
    have hgP := (gd_sub hg).1
    have hah := ah_app hg
    rw [← (nr_some h2).1] at hah
    have HO := Lib.hid (mov_some h1 hah h3)
    have hbig := nm_le hgP hgE
    have HL1 := Lib.hid (jo_long (P := P) (E := E))
    have HL2 := Lib.hid (jo_big (P := P) (E := E))
    have HL3 := Lib.hid (jo_fit (P := P) (E := E))
    rw [← wh_app] at hbig HL2 HL3
    obtain ⟨oj, hoj⟩ : ∃ o, joL P E = o := ⟨_, rfl⟩
    rw [hoj] at HO HL1 HL2 HL3
    rw [ps_some h1] at HP
    rw [ps_some h2] at HQ
    rw [ps_some h3] at HT
    rw [hut] at HU
    have hlP : (P.map ptL).length = P.length := by simp
    have hlE : (E.map ptL).length = E.length := by simp
    have hlD : ((P ++ F).map ptL).length = P.length + (F.map ptL).length := by simp
    have htk : ((P ++ F).map ptL).take P.length = P.map ptL := by rw [List.map_append, ← hlP, List.take_left]
    have hP32 : P.length ≤ 32 := hgP.1
    have hE32 : (E.map ptL).length ≤ 32 := by rw [hlE]; exact hgE.1
    have hD32 : ((P ++ F).map ptL).length ≤ 32 := by have := hg.1; simp at this ⊢; omega
    rw [← hlE] at HL1 HL3
    obtain ⟨p, hp⟩ : ∃ p, P.length = p := ⟨_, rfl⟩
    obtain ⟨L, hL⟩ : ∃ L, (P ++ F).map ptL = L := ⟨_, rfl⟩
    obtain ⟨LP, hLP⟩ : ∃ L, P.map ptL = L := ⟨_, rfl⟩
    obtain ⟨M, hM⟩ : ∃ M, E.map ptL = M := ⟨_, rfl⟩
    obtain ⟨N, hN⟩ : ∃ N, F.map ptL = N := ⟨_, rfl⟩
    rw [hp] at HL1 HL3 hlP hlD htk hP32
    rw [hL] at HP hlD htk hD32
    rw [hLP] at hlP htk hbig HL2 HL3
    rw [hM] at HT hbig HL1 HL2 HL3 hE32
    rw [hN] at HQ hlD
    obtain ⟨W, hW⟩ : ∃ W, whL (LP ++ M) = W := ⟨_, rfl⟩
    have HWh := Lib.hid (fun v w h => rwhole_any v (LP ++ M) hbig (by simp; omega) w h)
    rw [hW] at hbig HL2 HL3 HWh
    have hsub : (L.length : Int) - (N.length : Int) = (p : Int) := by omega
    have hnl : (N.length : Int) ≤ (L.length : Int) := by omega
    have hpl : p ≤ L.length := by omega
    have HTK := Lib.hid (And.intro htk hlP)
    change Hid (Calls Tryz.prog _ _ w fun en w' => ∃ v, en = .returned (.tuple #[v, .bool true]) ∧ w'.ownsRow w.heap.size _ 1 v L.length (sc L) ∧ Below w.heap.size w w') at HP
    change Hid (∀ w, Calls Tryz.prog _ _ w fun en w' => ∃ v, en = .returned (.tuple #[v, .bool true]) ∧ w'.ownsRow w.heap.size _ 1 v N.length (sc N) ∧ Below w.heap.size w w') at HQ
    change Hid (∀ w, Calls Tryz.prog _ _ w fun en w' => ∃ v, en = .returned (.tuple #[v, .bool true]) ∧ w'.ownsRow w.heap.size _ 1 v M.length (sc M) ∧ Below w.heap.size w w') at HT
    clear hbad hut h1 h2 h3 hg hgE hgP hah hoj hlE hlD htk hlP hp hL hLP hM hN hW
    go_enter Tryz.func14, Tryz.ntmps14
    go_wp2_with fail
    refine HP.out.mono ?_
    rintro e w1 ⟨v1, rfl, hown1, hb1⟩
    obtain ⟨a1, c1, rfl⟩ := ownsRow_slice hown1
    have HB1 := Lib.hid (And.intro hb1 hown1)
    clear hb1 hown1
    go_wp2_with fail
    refine (HQ.out _).mono ?_
    rintro e w2 ⟨v2, rfl, hown2, hb2⟩
    obtain ⟨a2, c2, rfl⟩ := ownsRow_slice hown2
    have HB2 := Lib.hid (And.intro (HB1.out.1.trans (hb2.mono HB1.out.1.size)) (ownsRow_below HB1.out.2 hb2))
    clear hb2 hown2
    go_wp2_with fail
    refine (HT.out _).mono ?_
    rintro e w3 ⟨v3, rfl, hown3, hb3⟩
    obtain ⟨a3, c3, rfl⟩ := ownsRow_slice hown3
    have HB3 := Lib.hid (And.intro (HB2.out.1.trans (hb3.mono HB2.out.1.size)) (And.intro (ownsRow_below HB2.out.2 hb3) hown3))
    clear hb3 hown3
    go_wp2_with fail
    refine (HU.out _).mono ?_
    rintro e w4 ⟨rfl, hb4⟩
    have HB4 := Lib.hid (And.intro (HB3.out.1.trans (hb4.mono HB3.out.1.size)) (And.intro (ownsRow_below HB3.out.2.1 hb4) (ownsRow_below HB3.out.2.2 hb4)))
    clear hb4
    have hsl : ∃ u, RdRow w4 1 u p (sc LP) ∧ ((a1 = none ∧ p = 0 ∧ u = .slice none 0 0 ∧ L.length = 0 ∧ c1 = 0) ∨ ∃ g, a1 = some ⟨g, 0, none⟩ ∧ u = .slice (some ⟨g, 0, none⟩) p c1 ∧ L.length ≤ c1) := by
      rcases HB4.out.2.1.2 with ⟨hv, h0⟩ | ⟨g, cap, cur, hv, _, _, hnc, _⟩
      · injection hv with hv1 hv2 hv3
        have hp0 : p = 0 := by omega
        have hLP0 : LP = [] := List.eq_nil_of_length_eq_zero (by have := HTK.out.2; omega)
        exact ⟨.slice none 0 0, by rw [hp0, hLP0]; exact rdRow_nil _ _, .inl ⟨hv1, hp0, rfl, h0, hv3⟩⟩
      · injection hv with hv1 hv2 hv3
        subst hv1 hv3
        exact ⟨_, by rw [← HTK.out.1]; exact rd_take HB4.out.2.1 p hpl, .inr ⟨g, rfl, rfl, hnc⟩⟩
    obtain ⟨u, hrd, hform⟩ := hsl
    have HRD := Lib.hid hrd
    clear hrd
    have HLl := Lib.hid HTK.out.2
    rcases hform with ⟨rfl, rfl, rfl, hL0, rfl⟩ | ⟨g, rfl, rfl, hLc⟩
    all_goals
      try have hpc : (p : Int) ≤ (c1 : Int) := by omega
      go_wp2_with (at_builtin; refine wpList_appendr rfl (.tmp 38) (.tmp 45) 36 9 rfl w4.heap.size 1 16 (.string ByteArray.empty) Tryz.dninfo9 Tryz.underlying36 rfl (by decide) (.slice none 0 0) 0 [] rfl (World.ownsRow_nil _ _ _ _) _ _ (sc LP) rfl HRD.out (txs_sc _) ?c1 ?c2 (Nat.le_refl _) ?_)
      case c1 => unfold maxLen; omega
      case c2 => omega
      intro v5 w5 g1 g2 g3
      have o5 := txs_app (L := LP) g1 (by have := HLl.out; omega) (by simp)
      obtain ⟨a5, c5, rfl⟩ := ownsRow_slice o5
      have hb5 := chg_nil g2
      have HB5 := Lib.hid (And.intro o5 (And.intro hb5 (rdRow_below (rdRow_owns HB4.out.2.2) hb5)))
      have hLP32 : LP.length ≤ 32 := by have := HLl.out; omega
      clear g1 g2 g3 o5 hb5
      go_wp2_with (at_builtin; refine wpList_appendr rfl (.tmp 47) (.tmp 48) 36 9 rfl w4.heap.size 1 16 (.string ByteArray.empty) Tryz.dninfo9 Tryz.underlying36 rfl (by decide) _ LP.length (sc LP) rfl HB5.out.1 _ M.length (sc M) rfl HB5.out.2.2 (txs_sc _) ?c1 ?c2 HB5.out.2.1.size ?_)
      case c1 => unfold maxLen; omega
      case c2 => omega
      intro v6 w6 g1 g2 g3
      have o6 := txs_app (L := LP ++ M) g1 (by simp) (by simp [sc])
      obtain ⟨a6, c6, rfl⟩ := ownsRow_slice o6
      have hb6 : Below w.heap.size w w6 := HB4.out.1.trans ((below_chg HB5.out.2.1 HB5.out.2.1.size HB5.out.1 g2).mono HB4.out.1.size)
      have HW6 := Lib.hid (HWh.out _ w6 (strR_owns o6))
      have HB6 := Lib.hid hb6
      have hlen : (LP ++ M).length = LP.length + M.length := by simp
      clear g1 g2 g3 o6 hb6
      rw [hlen] at HW6 ⊢
      by_cases hq : 32 < LP.length + M.length
      · have q : (32 : Int) < (LP.length : Int) + (M.length : Int) := by omega
        have HI := Lib.hid (HL1.out (by have := HLl.out; omega))
        clear hq
        go_wp2
        go_ret2
        exact sbPost_mk (a := []) (b := false) (by rw [HO.out, HI.out]; rfl) HB6.out
      · have q : ¬ (32 : Int) < (LP.length : Int) + (M.length : Int) := by omega
        by_cases hq2 : 4096 < W.length
        · have q2 : (4096 : Int) < (W.length : Int) := by omega
          have HI := Lib.hid (HL2.out hq2)
          clear hq hq2
          go_wp2_with (go_at_call 21; refine HW6.out.mono ?_; rintro e w7 ⟨rfl, hw⟩; obtain rfl := hw.symm; clear hw)
          go_ret2
          exact sbPost_mk (a := []) (b := false) (by rw [HO.out, HI.out]; rfl) HB6.out
        · have q2 : ¬ (4096 : Int) < (W.length : Int) := by omega
          have HI := Lib.hid (HL3.out (by have := HLl.out; omega) hq2)
          clear hq hq2
          go_wp2_with (go_at_call 21; refine HW6.out.mono ?_; rintro e w7 ⟨rfl, hw⟩; obtain rfl := hw.symm; clear hw)
          go_ret2
          exact sbPost_mk (by rw [HO.out, HI.out]; rfl) HB6.out
end Go.Proofs.YtdmjnfadhlgpkaaGreatDoor
namespace Go.Proofs.YtdmjnfadhlgpkaaGreatDoor
set_option linter.unusedSimpArgs false
set_option linter.unusedVariables false
open Go Go.RowKit Go.Proofs.BerK Go.Proofs.MemK Go.Proofs.UtfK

theorem bl_of3 (s : ByteArray) : ∃ l : List UInt8, s = ⟨l.toArray⟩ := ⟨s.data.toList, (mk_list s).symm⟩
set_option maxHeartbeats 12800000 in
set_option maxRecDepth 100000 in
theorem ptells_any (s t u : ByteArray) (w : World) (he : ErrOk w) : Calls Tryz.prog 3 #[.string s, .string t, .string u] w (BoolPost true w) := by
  obtain ⟨s, rfl⟩ := bl_of3 s
  obtain ⟨t, rfl⟩ := bl_of3 t
  obtain ⟨u, rfl⟩ := bl_of3 u
  have hbW : Below w.heap.size w w := Below.refl _ w
  have HW := Lib.hid (fun w' (hb : Below w.heap.size w w') => pawake_any w' (errOk_below he hb))
  by_cases h0 : 300 < s.length ∨ 300 < t.length ∨ 300 < u.length
  · have h1 : (300 : Int) < (s.length : Int) ∨ (¬ (300 : Int) < (s.length : Int) ∧ (300 : Int) < (t.length : Int)) ∨ (¬ (300 : Int) < (s.length : Int) ∧ ¬ (300 : Int) < (t.length : Int) ∧ (300 : Int) < (u.length : Int)) := by omega
    clear h0 he
    rcases h1 with q1 | ⟨q1, q2⟩ | ⟨q1, q2, q3⟩
    all_goals
      go_enter Tryz.func3, Tryz.ntmps3
      go_wp2_with fail
      refine (HW.out _ hbW).mono ?_
      rintro en w5 ⟨rfl, hb5⟩
      have hbW := hbW.trans (hb5.mono hbW.size)
      go_wp2
      go_ret
      exact boolPost_mk rfl hbW
  have z1 : ¬ (300 : Int) < (s.length : Int) := by omega
  have z2 : ¬ (300 : Int) < (t.length : Int) := by omega
  have z3 : ¬ (300 : Int) < (u.length : Int) := by omega
  have H1 := Lib.hid (fun w' (hb : Below w.heap.size w w') => parent_any s w' (errOk_below he hb))
  have H2 := Lib.hid (fun w' (hb : Below w.heap.size w w') => rparent_any s w')
  have H3 := Lib.hid (fun w' (hb : Below w.heap.size w w') => leaf_any s w' (errOk_below he hb))
  have H4 := Lib.hid (fun w' (hb : Below w.heap.size w w') => rleaf_any s w')
  have H5 := Lib.hid (fun w' (hb : Below w.heap.size w w') => join_any s t w' (errOk_below he hb))
  have H6 := Lib.hid (fun w' (hb : Below w.heap.size w w') => rjoin7_any s t w')
  have H7 := Lib.hid (fun w' (hb : Below w.heap.size w w') => move_any s t u w' (errOk_below he hb))
  have H8 := Lib.hid (fun w' (hb : Below w.heap.size w w') => rmove_any s t u w')
  have H9 := Lib.hid (fun w' (hb : Below w.heap.size w w') => depth_any s w' (errOk_below he hb))
  have H10 := Lib.hid (fun w' (hb : Below w.heap.size w w') => rdepth7_any s w')
  have H11 := Lib.hid (fun w' (hb : Below w.heap.size w w') => under_any s t w' (errOk_below he hb))
  have H12 := Lib.hid (fun w' (hb : Below w.heap.size w w') => runder_any s t w')
  obtain ⟨p1, hp1⟩ : ∃ p, parL s = p := ⟨_, rfl⟩
  obtain ⟨p2, hp2⟩ : ∃ p, leafL s = p := ⟨_, rfl⟩
  obtain ⟨p3, hp3⟩ : ∃ p, joinL s t = p := ⟨_, rfl⟩
  obtain ⟨p4, hp4⟩ : ∃ p, obL (movL s t u) = p := ⟨_, rfl⟩
  obtain ⟨d, hd⟩ : ∃ p, depL s = p := ⟨_, rfl⟩
  obtain ⟨b, hb⟩ : ∃ p, undL s t = p := ⟨_, rfl⟩
  have hdb := dep_bounds s
  rw [hp1] at H1 H2
  rw [hp2] at H3 H4
  rw [hp3] at H5 H6
  rw [hp4] at H7 H8
  rw [hd] at H9 H10 hdb
  rw [hb] at H11 H12
  obtain ⟨x1, b1⟩ := p1
  obtain ⟨x2, b2⟩ := p2
  obtain ⟨x3, n3⟩ := p3
  obtain ⟨x4, b4⟩ := p4
  obtain ⟨hd1, hd2⟩ := hdb
  have hn3 : n3 ≤ 13 := by
    have : (joinL s t).2 ≤ 13 := by
      unfold joinL
      split
      · split
        · split <;> simp
        · simp
      · simp
    rw [hp3] at this; exact this
  clear h0 he hp1 hp2 hp3 hp4 hd hb
  go_enter Tryz.func3, Tryz.ntmps3
  go_wp2_with ((first | with_reducible refine (H1.out _ hbW).mono ?_ | with_reducible refine (H2.out _ hbW).mono ?_ | with_reducible refine (H3.out _ hbW).mono ?_ | with_reducible refine (H4.out _ hbW).mono ?_ | with_reducible refine (H5.out _ hbW).mono ?_ | with_reducible refine (H6.out _ hbW).mono ?_ | with_reducible refine (H7.out _ hbW).mono ?_ | with_reducible refine (H8.out _ hbW).mono ?_ | with_reducible refine (H9.out _ hbW).mono ?_ | with_reducible refine (H10.out _ hbW).mono ?_ | with_reducible refine (H11.out _ hbW).mono ?_ | with_reducible refine (H12.out _ hbW).mono ?_ | with_reducible refine (HW.out _ hbW).mono ?_); rintro en w5 ⟨rfl, hb5⟩; have hbW := hbW.trans (hb5.mono hbW.size))
  go_ret
  exact boolPost_mk rfl hbW
end Go.Proofs.YtdmjnfadhlgpkaaGreatDoor
