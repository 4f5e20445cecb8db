/- The normal form of a name's text, the document's way, for every text. -/
import Derived.Test.YtlopmppiihhnnaaGreatDoorDrG
import Derived.Test.YtlopmppiihhnnaaGreatDoorDnS
namespace Go.Proofs.YtlopmppiihhnnaaGreatDoor
set_option linter.unusedSimpArgs false
set_option linter.unusedVariables false
open Go Go.RowKit Go.Proofs.BerK Go.Proofs.MemK Go.Proofs.UtfK

theorem nmO_none (D : List (List Av)) (i : Nat) (h : i < D.length) (hp : ptO D[i] = none) : nmO (D.drop i) = none := by rw [drop_at D i h, nmO, hp]
theorem nmO_some (D : List (List Av)) (i : Nat) (h : i < D.length) {q : List Av} (hp : ptO D[i] = some q) : nmO (D.drop i) = (nmO (D.drop (i + 1))).map (q :: ·) := by rw [drop_at D i h, nmO, hp]
def noO : Option (List (List Av)) → List UInt8 × Nat | none => ([], 5) | some E => puD E
theorem no_docO {s : List UInt8} {D : List (List Av)} (h : rdD s = (D, 0)) : noD s = noO (nmO D) := by
  rw [no_doc h]; cases nmO D <;> rfl
theorem nmO_ty {D E : List (List Av)} (h : nmO D = some E) (hD : ∀ r ∈ D, ∀ p ∈ r, p.1.length ≤ 64) : ∀ r ∈ E, ∀ p ∈ r, p.1.length ≤ 64 := by
  induction D generalizing E with
  | nil => injection h with h; subst h; simp
  | cons r D ih =>
    rw [nmO] at h
    cases ho : ptO r with
    | none => rw [ho] at h; cases h
    | some q =>
      rw [ho] at h
      simp only [Option.map_eq_some_iff] at h
      obtain ⟨Q, h1, rfl⟩ := h
      intro x hx p hp
      rcases List.mem_cons.1 hx with rfl | hx
      · unfold ptO at ho
        split at ho
        · cases ho
        · injection ho with ho
          rw [← ho] at hp
          have hp2 := (insF_perm (r.map nmA) []).mem_iff.1 hp
          rw [List.append_nil] at hp2
          obtain ⟨z, hz, rfl⟩ := List.mem_map.1 hp2
          show (lowL z.1).length ≤ 64
          rw [lowL_length]
          exact hD r (by simp) z hz
      · exact ih h1 (fun x hx => hD x (by simp [hx])) x hx p hp
theorem ptO_len {r q : List Av} (h : ptO r = some q) : q.length = r.length := by
  unfold ptO at h
  split at h
  · cases h
  · injection h with h; rw [← h, insF_len]; simp
set_option maxHeartbeats 6400000 in
set_option maxRecDepth 100000 in
theorem rnorm_any (s : ByteArray) (w : World) : Calls Tryz.prog 23 #[.string s] w (PutPost (noD s.data.toList) w) := by
  have HR := Lib.hid (rread_any s w)
  have HE := Lib.hid (fun D n h => noD_err (s := s.data.toList) (D := D) (n := n) h)
  have HO := Lib.hid (fun D h => no_docO (s := s.data.toList) (D := D) h)
  have HQ := Lib.hid (fun D h => rdD_facts (s := s.data.toList) (D := D) h)
  obtain ⟨P, hP⟩ : ∃ P, rdD s.data.toList = P := ⟨_, rfl⟩
  rw [hP] at HR HE HO HQ
  clear hP
  obtain ⟨D, n⟩ := P
  by_cases hn : n = 0
  · subst hn
    obtain ⟨hD32, hDp⟩ := HQ.out D rfl
    have HN := Lib.hid (HO.out D rfl)
    have HD := Lib.hid hDp
    obtain ⟨R, hR⟩ : ∃ R, noD s.data.toList = R := ⟨_, rfl⟩
    rw [hR] at HN ⊢
    clear hR hDp HO HE HQ
    go_enter Tryz.func23, Tryz.ntmps23
    go_wp2_with fail
    refine HR.out.mono ?_
    rintro e w1 ⟨dv, rfl, hdn, hb1⟩
    obtain ⟨da, dc, hdv, hdcap, hdcells⟩ := id hdn
    change dv = .slice da D.length dc at hdv
    subst hdv
    have HDN := Lib.hid (And.intro hdcells hb1)
    clear hdn hdcells hb1
    go_wp2
    go_loopw [6, 7] (fun o v wr => ∃ (i : Nat) (vs : List Value) (E : List (List Av)), i ≤ D.length ∧ v = .int .i64 (i : Nat) ∧ E.length = i ∧ GridA wr w1.heap.size 63 65 o vs E ∧ Below w1.heap.size w1 wr ∧ nmO D = (nmO (D.drop i)).map (E ++ ·)) (fun _ v _ => D.length - (intOf v).toNat)
    case atStart => exact ⟨0, [], [], by omega, rfl, rfl, gridA_nil _ _ _ _, Below.refl _ _, by rw [List.drop_zero]; simp⟩
    case round =>
      obtain ⟨i, vs, E, hi, rfl, hE, hgrid, hb, hinv⟩ := hrel
      obtain ⟨ga, gc, rfl⟩ := ownsRow_slice hgrid.2.1
      by_cases hlt : i < D.length
      · have hil : (i : Int) < (D.length : Int) := by omega
        obtain ⟨g, o, u, rfl, hg, e1w, hav⟩ := HDN.out.1 i hlt
        have e1 := (hb.cell (p := ⟨g, o + i, none⟩) hg).trans e1w
        have hav2 := avAt_below hav hb
        obtain ⟨p1, p2, p3⟩ := prL_facts (HD.out _ (List.getElem_mem hlt))
        have HPt := Lib.hid (rpart_any u D[i] p2 p3 wr hav2)
        have HN1 := Lib.hid (nmO_none D i hlt)
        have HS1 := Lib.hid (fun q => nmO_some D i hlt (q := q))
        have HLn := Lib.hid (fun q => ptO_len (r := D[i]) (q := q))
        obtain ⟨ua, uc, hu, _⟩ := id hav2
        subst hu
        obtain ⟨r, hr⟩ : ∃ r, D[i] = r := ⟨_, rfl⟩
        rw [hr] at HPt HN1 HS1 HLn e1 p2
        obtain ⟨ot, hot⟩ : ∃ ot, ptO r = ot := ⟨_, rfl⟩
        rw [hot] at HPt HN1 HS1 HLn
        have H := Lib.hid (And.intro hgrid (And.intro hb (And.intro hinv hE)))
        have hE32 : E.length ≤ 32 := by omega
        clear hgrid hb hinv hE hav hav2 p1 p3 hr hot e1w
        cases ot with
        | none =>
          have HI := Lib.hid (show R = ([], 5) by rw [HN.out, H.out.2.2.1, HN1.out rfl]; rfl)
          change Hid (Calls Tryz.prog _ _ wr fun en w' => en = .returned (.tuple #[.slice none 0 0, .bool false]) ∧ Below wr.heap.size wr w') at HPt
          go_wp2_with fail
          refine HPt.out.mono ?_
          rintro e w2 ⟨rfl, hb2⟩
          have HB2 := Lib.hid (HDN.out.2.trans ((H.out.2.1.trans (hb2.mono H.out.2.1.size)).mono HDN.out.2.size))
          clear hb2
          go_wp2
          go_ret2
          exact putPost_mk (a := []) (n := 5) HI.out HB2.out
        | some q =>
          have HI := Lib.hid (show nmO D = (nmO (D.drop (i + 1))).map ((E ++ [q]) ++ ·) by
            rw [H.out.2.2.1, HS1.out q rfl, Option.map_map]; congr 1; funext x; simp)
          change Hid (Calls Tryz.prog _ _ wr fun en w' => ∃ v, en = .returned (.tuple #[v, .bool true]) ∧ OwnAv w' wr.heap.size _ v q ∧ Below wr.heap.size wr w') at HPt
          go_wp2_with fail
          refine HPt.out.mono ?_
          rintro e w2 ⟨qv, rfl, hq, hb2⟩
          obtain ⟨qa, qc, rfl⟩ := ownsRow_slice hq
          have hgr := gridA_below H.out.1 hb2
          have hap := apart_base (B2 := w1.heap.size) H.out.1.2.1 hq (Nat.le_refl _)
          have HX := Lib.hid (And.intro hgr (And.intro hap (And.intro (H.out.2.1.trans (hb2.mono H.out.2.1.size)) (show OwnAv w2 w1.heap.size _ _ q from ownsRow_base hq H.out.2.1.size))))
          clear hgr hap hb2 hq
          go_wp2_with (at_builtin; refine wpList_pushc rfl (.tmp 34) (.tmp 36) 59 63 rfl w1.heap.size 1 24 (.slice none 0 0) Tryz.dninfo63 Tryz.underlying59 rfl (by decide) [.slice qa q.length qc] rfl ?c0 _ E.length _ rfl _ rfl ?c3 HX.out.1.2.1 ?c1 ?c2 HX.out.2.2.1.size ?_)
          case c0 => first | rfl | (intro u hu; simp at hu; subst hu; rfl)
          case c1 => unfold maxLen; omega
          case c2 => omega
          case c3 => first | rfl | simp
          intro v' w' g1 g2 g3
          have hg := gridA_snoc HX.out.1 HX.out.2.2.2 HX.out.2.1 g1 g2 g3
          have hbb := below_chg HX.out.2.2.1 HX.out.2.2.1.size HX.out.1.2.1 g2
          have H9 := Lib.hid (And.intro hg hbb)
          clear g1 g2 g3 hg hbb
          go_wp2
          exact ⟨⟨i + 1, vs ++ [.slice qa q.length qc], E ++ [q], by omega, by go_num, by simp [H.out.2.2.2], H9.out.1, H9.out.2, HI.out⟩, by simp [intOf]; omega⟩
      · obtain rfl : i = D.length := by omega
        have hps : nmO D = some E := by rw [hinv, List.drop_of_length_le (Nat.le_refl _)]; simp [nmO]
        have hty := nmO_ty hps (fun r hr p hp => by have := (avOk_len ((prL_facts (HD.out r hr)).2.2 p hp)).1; exact this)
        have HC := Lib.hid (rput6_any (.slice ga E.length gc) E (fun r hr p hp => by have := hty r hr p hp; omega) wr (dnAt_grid hgrid))
        have HI := Lib.hid (show R = puD E by rw [HN.out, hps]; rfl)
        have HB := Lib.hid (HDN.out.2.trans (hb.mono HDN.out.2.size))
        obtain ⟨pq, hpq⟩ : ∃ pq, puD E = pq := ⟨_, rfl⟩
        rw [hpq] at HC HI
        obtain ⟨X, m⟩ := pq
        clear hgrid hb hinv hps hty hpq hE
        go_wp2_with fail
        refine HC.out.mono ?_
        rintro e w3 ⟨rfl, hb3⟩
        have HB3 := Lib.hid (HB.out.trans (hb3.mono HB.out.size))
        clear hb3
        go_wp2
        go_ret2
        exact putPost_mk HI.out HB3.out
  · have hq : ((n : Int) != 0) = true := by rw [bne_iff_ne]; omega
    have HI := Lib.hid (HE.out D n rfl hn)
    clear hn HO HE HQ
    go_enter Tryz.func23, Tryz.ntmps23
    go_wp2_with fail
    refine HR.out.mono ?_
    rintro e w1 ⟨dv, rfl, hdn, hb1⟩
    have HB := Lib.hid hb1
    clear hdn hb1
    go_wp2
    go_ret2
    exact putPost_mk (a := []) HI.out HB.out
end Go.Proofs.YtlopmppiihhnnaaGreatDoor
