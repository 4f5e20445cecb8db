/- The document's parts of a name as texts, parts with commas between, and whether some are the last ones of others. The document's Depth, Parent, Leaf, Under, Join, Move, for all texts. -/
import Derived.Test.YtpkbgkoocijegaaGreatDoorDrGH
import Derived.Test.YtpkbgkoocijegaaGreatDoorPlAC
import Derived.Test.YtpkbgkoocijegaaGreatDoorGenB
set_option linter.unusedVariables false
set_option linter.unusedSimpArgs false
set_option maxHeartbeats 25600000
set_option maxRecDepth 100000
namespace Go.Proofs.YtpkbgkoocijegaaGreatDoor
open Go Go.RowKit Go.Proofs.BerK Go.Proofs.MemK Go.Proofs.UtfK
def StrR (w : World) (v : Value) (l : List (List UInt8)) : Prop :=
 ∃ a c, v = .slice a l.length c /\ ∀ i (hi : i < l.length), ∃ g o, a = some ⟨g, o, none⟩ /\ g < w.heap.size /\ w.cell? ⟨g, o + i, none⟩ = some (.string ⟨l[i].toArray⟩)
theorem strR_owns {w : World} {B : Nat} {e : TypeId} {v : Value} {l : List (List UInt8)} (h : w.ownsRow B e 1 v l.length (sc l)) : StrR w v l := by
 obtain ⟨a, c, hv, hc⟩ := strU_owns h
 refine ⟨a, c, hv, fun i hi => ?_⟩
 obtain ⟨g, h1, h2, h3⟩ := hc i hi
 exact ⟨g, 0, h1, h2, by rw [Nat.zero_add]; exact h3⟩
def PsPost (o : Option (List (List UInt8))) (e : TypeId) (w : World) (en : Ending) (w' : World) : Prop :=
 match o with
 | none => en = .returned (.tuple #[.slice none 0 0, .bool false]) /\ Below w.heap.size w w'
 | some L => ∃ v, en = .returned (.tuple #[v, .bool true]) /\ w'.ownsRow w.heap.size e 1 v L.length (sc L) /\ Below w.heap.size w w'
theorem psPost_none {o : Option (List (List UInt8))} {e : TypeId} {w w' : World} (h : o = none) (hb : Below w.heap.size w w') : PsPost o e w (.returned (.tuple #[.slice none 0 0, .bool false])) w' := by subst h; exact ⟨rfl, hb⟩
theorem psPost_some {o : Option (List (List UInt8))} {L : List (List UInt8)} {e : TypeId} {w w' : World} {v : Value} (h : o = some L) (h1 : w'.ownsRow w.heap.size e 1 v L.length (sc L)) (hb : Below w.heap.size w w') : PsPost o e w (.returned (.tuple #[v, .bool true])) w' := by subst h; exact ⟨v, rfl, h1, hb⟩
def psO (s : List UInt8) : Option (List (List UInt8)) := (nrD s).map (·.map ptL)
theorem psO_err {s X : List UInt8} {n : Nat} (h : noD s = (X, n)) (h2 : n ≠ 0 \/ X ≠ s) : psO s = none := by
 unfold psO
 rw [nr_not]; rfl
 rw [h]
 intro e
 obtain ⟨e1, e2⟩ := Prod.mk.inj e
 rcases h2 with h2 | h2
 ·exact h2 e2
 ·exact h2 e1
theorem psO_ok {s : List UInt8} (h : noD s = (s, 0)) : ∃ D, rdD s = (D, 0) /\ psO s = some (D.map ptL) /\ D.length <= 32 /\ ∀ r ∈ D, prL r = true := by
 obtain ⟨D, hD⟩ := nr_of h
 have h2 := hD
 unfold nrD at h2
 rw [if_pos h] at h2
 injection h2 with h2
 obtain ⟨_, hg⟩ := nr_some hD
 refine ⟨D, ?_, by unfold psO; rw [hD]; rfl, hg.1, fun r hr => (hg.2.1 r hr).1⟩
 have h3 := rd_nm D hg.1 (fun r hr => (hg.2.1 r hr).1) hg.2.2
 rw [<- (nr_some hD).1] at h3
 exact h3
theorem rparts_any (s : List UInt8) (w : World) : Calls Tryz.prog 87 #[.string ⟨s.toArray⟩] w (PsPost (psO s) 9 w) := by
 have HN := Hy (rnorm_any ⟨s.toArray⟩ w)
 change Hid (Calls Tryz.prog _ _ w (PutPost (noD s) w)) at HN
 obtain ⟨P, hP⟩ : ∃ P, noD s = P := ⟨_, rfl⟩
 rw [hP] at HN
 obtain ⟨X, n⟩ := P
 by_cases hbad : n ≠ 0 \/ X ≠ s
 ·have HI := Hy (psO_err hP hbad)
  have hc : ((n : Int) != 0) = true \/ (((n : Int) != 0) = false /\ (X == s) = false) := by
   by_cases hn : n = 0
   ·refine .inr ⟨by rw [hn]; rfl, ?_⟩
    rw [beq_eq_false_iff_ne]
    rcases hbad with h | h
    ·exact absurd hn h
    ·exact h
   ·exact .inl (by rw [bne_iff_ne]; omega)
  clear hP hbad
  rcases hc with q | ⟨q, q2⟩
  all_goals
   go_enter Tryz.func87, Tryz.ntmps87
   go_wp2_with fail
   refine HN.out.mono ?_
   rintro e w1 ⟨rfl, hb1⟩
   have HB := Hy hb1
   clear hb1
   go_wp2
   go_ret2
   exact psPost_none HI.out HB.out
 ·rw [not_or, Decidable.not_not, Decidable.not_not] at hbad
  obtain ⟨rfl, rfl⟩ := hbad
  obtain ⟨D, hrd, hps, hD32, hDp⟩ := psO_ok hP
  have HR := Hy (fun w => rread_any ⟨X.toArray⟩ w)
  change Hid (∀ w, Calls Tryz.prog _ _ w (RnPost (rdD X) w)) at HR
  rw [hrd] at HR
  have HI := Hy hps
  have HD := Hy hDp
  clear hP hrd hps hDp
  go_enter Tryz.func87, Tryz.ntmps87
  go_wp2_with fail
  refine HN.out.mono ?_
  rintro e w1 ⟨rfl, hb1⟩
  have HB1 := Hy hb1
  clear hb1
  go_wp2_with fail
  refine (HR.out w1).mono ?_
  rintro e w2 ⟨dv, rfl, hdn, hb2⟩
  obtain ⟨da, dc, hdv, hdcap, hdcells⟩ := id hdn
  change dv = .slice da D.length dc at hdv
  subst hdv
  have HDN := Hy (An hdcells (HB1.out.trans (hb2.mono HB1.out.size)))
  clear hdn hdcells hb2
  go_wp2
  go_loopw [8, 9] (fun o v wr => ∃ i : Nat, i <= D.length /\ v = .int .i64 (i : Nat) /\ wr.ownsRow w2.heap.size 9 1 o i (sc ((D.map ptL).take i)) /\ Below w2.heap.size w2 wr) (fun _ v _ => D.length - (intOf v).toNat)
  case atStart => exact ⟨0, by omega, rfl, World.ownsRow_nil _ _ _ _, Below.refl _ _⟩
  case round =>
   obtain ⟨i, hi, rfl, hown, hb⟩ := hrel
   obtain ⟨oa, oc, rfl⟩ := ownsRow_slice hown
   by_cases hlt : i < D.length
   ·have hil : (i : Int) < (D.length : Int) := by omega
    obtain ⟨g, o, u, rfl, hg, e1w, hav⟩ := HDN.out.1 i hlt
    have e1 := (hb.cell (p := ⟨g, o + i, none⟩) hg).trans e1w
    have hav2 := avAt_below hav hb
    obtain ⟨p1, p2, p3⟩ := prL_facts (HD.out _ (List.getElem_mem hlt))
    have HPt := Hy (rpart6_any u D[i] p2 p3 wr hav2)
    obtain ⟨ua, uc, hu, _⟩ := id hav2
    subst hu
    have HS := Hy (show sc ((D.map ptL).take (i + 1)) = sc ((D.map ptL).take i) ++ [.string ⟨(ptL D[i]).toArray⟩] by
     rw [List.take_succ_eq_append_getElem (by simpa using hlt)]; simp [sc])
    obtain ⟨r, hr⟩ : ∃ r, D[i] = r := ⟨_, rfl⟩
    rw [hr] at HPt HS e1 p2
    have H := Hy (An hown hb)
    clear hown hb hav hav2 p1 p3 hr e1w
    go_wp2_with fail
    refine HPt.out.mono ?_
    rintro e w3 ⟨rfl, hb3⟩
    have H3 := Hy (An (ownsRow_below H.out.1 hb3) (H.out.2.trans (hb3.mono H.out.2.size)))
    clear hb3
    go_wp2_with (at_builtin; refine wpList_pushm rfl (.tmp 33) (.tmp 39) 43 9 rfl w2.heap.size 1 16 (.string ByteArray.empty) Tryz.dninfo9 Tryz.underlying43 rfl (by decide) 1 [.string ⟨(ptL r).toArray⟩] rfl ?c0 _ i _ rfl _ rfl ?c3 H3.out.1 ?c1 ?c2 H3.out.2.size ?_)
    case c0 => first | rfl | (intro u hu; simp at hu; subst hu; rfl)
    case c1 => unfold maxLen; omega
    case c2 => omega
    case c3 => first | rfl | simp
    intro v' w' g1 g2
    have g3 : w'.ownsRow w2.heap.size 9 1 v' (i + 1) (sc ((D.map ptL).take (i + 1))) := by rw [HS.out]; exact g1
    have H4 := Hy (An g3 (H3.out.2.trans g2))
    clear g1 g2 g3
    go_wp2
    exact ⟨⟨i + 1, by omega, by go_num, H4.out.1, H4.out.2⟩, by simp [intOf]; omega⟩
   ·obtain rfl : i = D.length := by omega
    rw [List.take_of_length_le (by simp)] at hown
    have H := Hy (An (ownsRow_base hown HDN.out.2.size) (HDN.out.2.trans (hb.mono HDN.out.2.size)))
    have HL := Hy (show (D.map ptL).length = D.length by simp)
    clear hown hb
    go_wp2
    go_ret2
    exact psPost_some HI.out (by rw [HL.out]; exact H.out.1) H.out.2
theorem ps_none {s : List UInt8} (h : nrD s = none) : psO s = none := by unfold psO; rw [h]; rfl
theorem ps_some {s : List UInt8} {D : List (List Av)} (h : nrD s = some D) : psO s = some (D.map ptL) := by unfold psO; rw [h]; rfl
theorem rleaf_any (s : List UInt8) (w : World) : Calls Tryz.prog 41 #[.string ⟨s.toArray⟩] w (SbPost (leafL s) w) := by
 have HP := Hy (rparts_any s w)
 rcases nr_ways s with h | ⟨r, D, h⟩
 ·have HO := Hy (leaf_none h)
  have hp : psO s = none \/ psO s = some [] := by
   rcases h with h | h
   ·exact .inl (ps_none h)
   ·exact .inr (ps_some h)
  rcases hp with hp | hp
  ·rw [hp] at HP
   change Hid (Calls Tryz.prog _ _ w fun en w' => en = .returned (.tuple #[.slice none 0 0, .bool false]) /\ Below w.heap.size w w') at HP
   clear h hp
   go_enter Tryz.func41, Tryz.ntmps41
   go_wp2_with fail
   refine HP.out.mono ?_
   rintro e w1 ⟨rfl, hb⟩
   go_wp2
   go_ret2
   exact sbPost_mk (a := []) (b := false) HO.out hb
  ·rw [hp] at HP
   change Hid (Calls Tryz.prog _ _ w fun en w' => ∃ v, en = .returned (.tuple #[v, .bool true]) /\ w'.ownsRow w.heap.size _ 1 v 0 [] /\ Below w.heap.size w w') at HP
   clear h hp
   go_enter Tryz.func41, Tryz.ntmps41
   go_wp2_with fail
   refine HP.out.mono ?_
   rintro e w1 ⟨v, rfl, hown, hb⟩
   obtain ⟨a, c, rfl⟩ := ownsRow_slice hown
   clear hown
   go_wp2
   go_ret2
   exact sbPost_mk (a := []) (b := false) HO.out hb
 ·have HO := Hy (leaf_cons h)
  rw [ps_some h] at HP
  rw [List.map_cons] at HP
  obtain ⟨L, hL⟩ : ∃ L, D.map ptL = L := ⟨_, rfl⟩
  rw [hL] at HP
  obtain ⟨x, hx⟩ : ∃ x, ptL r = x := ⟨_, rfl⟩
  rw [hx] at HP HO
  change Hid (Calls Tryz.prog _ _ w fun en w' => ∃ v, en = .returned (.tuple #[v, .bool true]) /\ w'.ownsRow w.heap.size _ 1 v (x :: L).length (sc (x :: L)) /\ Below w.heap.size w w') at HP
  clear h hL hx
  go_enter Tryz.func41, Tryz.ntmps41
  go_wp2_with fail
  refine HP.out.mono ?_
  rintro e w1 ⟨v, rfl, hown, hb⟩
  obtain ⟨a, c, hv, hc⟩ := strR_owns hown
  obtain ⟨g, o, rfl, hg, e1⟩ := hc 0 (by simp)
  simp only [List.length_cons, List.getElem_cons_zero, Nat.add_zero] at hv e1
  subst hv
  have hpos : (0 : Int) < (L.length : Int) + 1 := by omega
  have HB := Hy hb
  clear hown hb hc
  go_wp2
  go_ret2
  exact sbPost_mk HO.out HB.out
end Go.Proofs.YtpkbgkoocijegaaGreatDoor
