/- A name's text read, the document's way, for every text. -/
import Derived.Test.YtpkbgkoocijegaaGreatDoorDrCE
set_option linter.unusedVariables false
set_option linter.unusedSimpArgs false
set_option maxHeartbeats 25600000
set_option maxRecDepth 100000
namespace Go.Proofs.YtpkbgkoocijegaaGreatDoor
open Go Go.RowKit Go.Proofs.BerK Go.Proofs.MemK Go.Proofs.UtfK
theorem rp_ty {t : List UInt8} {p : Av} (h : rpL t = some p) : tyL p.1 = true := by
 unfold rpL rpJ at h
 split at h
 ·rename_i hb
  split at h
  ·cases h
  ·split at h
   ·cases h
   ·injection h with h; subst h; exact hb
 ·cases h
theorem rps_ty {l : List (List UInt8)} {r : List Av} (h : rpsL l = some r) : ∀ p ∈ r, tyL p.1 = true := by
 induction l generalizing r with
 | nil => injection h with h; subst h; simp
 | cons t l ih =>
  rw [rpsL] at h
  cases hp : rpL t with
  | none => rw [hp] at h; cases h
  | some p =>
   rw [hp] at h
   simp only [Option.map_eq_some_iff] at h
   obtain ⟨q, h1, rfl⟩ := h
   intro x hx
   rcases List.mem_cons.1 hx with rfl | hx
   ·exact rp_ty hp
   ·exact ih h1 x hx
theorem rpp_ty {l : List (List (List UInt8))} {D : List (List Av)} (h : rpp l = some D) : ∀ r ∈ D, ∀ p ∈ r, tyL p.1 = true := by
 induction l generalizing D with
 | nil => injection h with h; subst h; simp
 | cons t l ih =>
  rw [rpp] at h
  cases hp : rpsL t with
  | none => rw [hp] at h; cases h
  | some p =>
   rw [hp] at h
   simp only [Option.map_eq_some_iff] at h
   obtain ⟨q, h1, rfl⟩ := h
   intro x hx
   rcases List.mem_cons.1 hx with rfl | hx
   ·exact rps_ty hp
   ·exact ih h1 x hx
theorem ty_len {T : List UInt8} (h : tyL T = true) : T.length <= 64 := by
 simp only [tyL, Bool.and_eq_true, decide_eq_true_eq] at h
 exact h.1.2
theorem rd_long {s : List UInt8} (h : 4096 < s.length) : rdD s = ([], 3) := by unfold rdD; rw [if_pos h]
theorem rd_mid {s : List UInt8} (h : s.length <= 4096) (h0 : s ≠ []) : rdD s = match rpp ((spB 44 s).map (spB 43)) with
  | none => ([], 5)
  | some d => if lgD d = true then ([], 3) else if ckD d ≠ 0 then ([], ckD d) else (d, 0) := by
 unfold rdD
 rw [if_neg (by omega), if_neg h0, splL_sp]
 cases rpp ((spB 44 s).map (spB 43)) <;> rfl
def RnPost (p : List (List Av) × Nat) (w : World) (en : Ending) (w' : World) : Prop :=
 ∃ v, en = .returned (.tuple #[v, .int .i64 (p.2 : Nat)]) /\ DnAt w' v p.1 /\ Below w.heap.size w w'
theorem rnPost_mk {p : List (List Av) × Nat} {w w' : World} {v : Value} {D : List (List Av)} {n : Nat} (h : p = (D, n)) (h1 : DnAt w' v D) (h2 : Below w.heap.size w w') : RnPost p w (.returned (.tuple #[v, .int .i64 (n : Nat)])) w' := by subst h; exact ⟨v, rfl, h1, h2⟩
theorem any_snoc (D : List (List Av)) (r : List Av) : (D ++ [r]).any (fun r => decide (8 < r.length)) = (D.any (fun r => decide (8 < r.length)) || decide (8 < r.length)) := by simp
theorem map_drop_at (t : UInt8) (L : List (List UInt8)) (i : Nat) (h : i < L.length) : (L.map (spB t)).drop i = spB t L[i] :: (L.map (spB t)).drop (i + 1) := by
 rw [drop_at _ i (by simpa using h)]; simp
theorem rread_mid (s : ByteArray) (hm : s.size <= 4096) (h0 : 0 < s.size) (w : World) :
  Calls Tryz.prog 42 #[.string s] w (RnPost (rdD s.data.toList) w) := by
 have hl := len_list s
 have hrd := rd_mid (s := s.data.toList) (by omega) (by intro e; rw [e] at hl; simp at hl; omega)
 obtain ⟨R, hR⟩ : ∃ R, rdD s.data.toList = R := ⟨_, rfl⟩
 rw [hR] at hrd ⊢
 have HSp := Hy (rsplit_any s 44 (by decide) (by omega))
 change Hid (∀ w, Calls Tryz.prog _ #[.string s, .int .u8 44] w _) at HSp
 obtain ⟨lb1, lb2⟩ := spB_len 44 s.data.toList
 obtain ⟨L, hL⟩ : ∃ L, spB 44 s.data.toList = L := ⟨_, rfl⟩
 rw [hL] at hrd HSp lb1 lb2
 obtain ⟨PS, hPS⟩ : ∃ PS, L.map (spB 43) = PS := ⟨_, rfl⟩
 have HPS := Hy (fun i h => map_drop_at 43 L i h)
 rw [hPS] at hrd HPS
 have hPL : PS.length = L.length := by rw [<- hPS]; simp
 have HR := Hy hrd
 have HL2 := Hy lb2
 have hLn : L.length <= 4097 := by omega
 have hem := str_ne s h0
 have hms : ¬ ((4096 : Int) < (s.size : Int)) := by omega
 clear hR hrd lb1 lb2 hL hPS hl
 go_enter Tryz.func42, Tryz.ntmps42
 go_wp2_with fail
 refine (HSp.out _).mono ?_
 rintro e w1 ⟨lv, rfl, hlo, hb1⟩
 obtain ⟨la, lc, rfl⟩ := ownsRow_slice hlo
 have HLo := Hy (An (strU_owns hlo) hb1)
 clear hlo hb1
 go_wp2
 go_loopw [4, 5, 7] (fun o lg v wr => ∃ (i : Nat) (vs : List Value) (D : List (List Av)) (b : Bool), i <= L.length /\ v = .int .i64 (i : Nat) /\ D.length = i /\ GridA wr w1.heap.size 95 97 o vs D /\ Below w1.heap.size w1 wr /\
  lg = .bool b /\ (D.any fun r => decide (8 < r.length)) = b /\ rpp PS = (rpp (PS.drop i)).map (D ++ ·)) (fun _ _ v _ => L.length - (intOf v).toNat)
 case atStart => exact ⟨0, [], [], false, by omega, rfl, rfl, gridA_nil _ _ _ _, Below.refl _ _, rfl, rfl, by rw [List.drop_zero]; simp⟩
 case round =>
  obtain ⟨i, vs, D, lg, hi, rfl, hD, hgrid, hb, rfl, hlg, hinv⟩ := hrel
  obtain ⟨ga, gc, hgv⟩ := ownsRow_slice hgrid.2.1
  by_cases hlt : i < L.length
  ·have hil : (i : Int) < (L.length : Int) := by omega
   obtain ⟨la', lc', hlv, hlc⟩ := HLo.out.1
   injection hlv with hlv1 _ hlv3
   subst hlv1 hlv3
   obtain ⟨lg2, rfl, hlg2, e1w⟩ := hlc i hlt
   have e1 := (hb.cell (p := ⟨lg2, i, none⟩) hlg2).trans e1w
   have hxl := HL2.out _ (List.getElem_mem hlt)
   have hdr := HPS.out i hlt
   obtain ⟨x, hx⟩ : ∃ x, L[i] = x := ⟨_, rfl⟩
   rw [hx] at e1 hxl hdr
   have HS2 := Hy (rsplit_any ⟨x.toArray⟩ 43 (by decide) (show x.length <= _ by rw [len_list] at hxl; omega))
   change Hid (∀ w, Calls Tryz.prog _ #[.string ⟨x.toArray⟩, .int .u8 43] w (TxsPost (spB 43 x) _ w)) at HS2
   obtain ⟨mb1, mb2⟩ := spB_len 43 x
   obtain ⟨M, hM⟩ : ∃ M, spB 43 x = M := ⟨_, rfl⟩
   rw [hM] at HS2 mb1 mb2 hdr
   rw [hdr] at hinv
   have hMn : M.length <= 4097 := by rw [len_list] at hxl; omega
   have HM2 := Hy (show ∀ y ∈ M, y.length <= 4096 from fun y hy => by have := mb2 y hy; rw [len_list] at hxl; omega)
   have H := Hy (An hgrid (An hb (An hinv (An hlg (An hgv hD)))))
   have hDi : D.length <= 4097 := by omega
   clear hgrid hb hinv hlc hx hM mb1 mb2 hdr e1w hxl hlg hgv hD
   go_wp2_with fail
   refine (HS2.out _).mono ?_
   rintro e w2 ⟨mv, rfl, hmo, hb2⟩
   obtain ⟨ma, mc, rfl⟩ := ownsRow_slice hmo
   have HMo := Hy (An (strU_owns hmo) hb2)
   clear hmo hb2
   go_wp2
   go_loopw [9, 10, 11, 12] (fun rv v _ _ wr2 => ∃ (k : Nat) (Q : List Av), k <= M.length /\ v = .int .i64 (k : Nat) /\ Q.length = k /\ OwnAv wr2 w2.heap.size 97 rv Q /\ Below w2.heap.size w2 wr2 /\ rpsL M = (rpsL (M.drop k)).map (Q ++ ·)) (fun _ v _ _ _ => M.length - (intOf v).toNat)
   case atStart => exact ⟨0, [], by omega, rfl, rfl, World.ownsRow_nil _ _ _ _, Below.refl _ _, by rw [List.drop_zero]; simp⟩
   case round =>
    obtain ⟨k, Q, hk, rfl, hQ, hown, hbr, hinv⟩ := hrel
    obtain ⟨qa, qc, rfl⟩ := ownsRow_slice hown
    by_cases hlk : k < M.length
    ·have hkl : (k : Int) < (M.length : Int) := by omega
     obtain ⟨ma', mc', hmv, hmc⟩ := HMo.out.1
     injection hmv with hmv1 _ hmv3
     subst hmv1 hmv3
     obtain ⟨mg, rfl, hmg, e2w⟩ := hmc k hlk
     have e2 := (hbr.cell (p := ⟨mg, k, none⟩) hmg).trans e2w
     have hyl := HM2.out _ (List.getElem_mem hlk)
     have HN := Hy (rps_none M k hlk)
     have HSm := Hy (fun q => rps_some M k hlk (p := q))
     obtain ⟨y, hy⟩ : ∃ y, M[k] = y := ⟨_, rfl⟩
     rw [hy] at e2 hyl HN HSm
     have HP := Hy (fun w => rpair_any ⟨y.toArray⟩ (show y.length <= _ by omega) w)
     change Hid (∀ w, Calls Tryz.prog _ _ w (PrPost (rpL y) w)) at HP
     obtain ⟨o, ho⟩ : ∃ o, rpL y = o := ⟨_, rfl⟩
     rw [ho] at HP HN HSm
     have H2 := Hy (An hown (An hbr (An hinv hQ)))
     clear hown hbr hinv hmc hy ho e2w hyl hQ
     go_wp2_with fail
     refine (HP.out _).mono ?_
     rintro e w3 ⟨T, V, rfl, hor, hb3⟩
     obtain ⟨W4, hW4⟩ : ∃ W4, w3.alloc (.cells #[.string ⟨T.toArray⟩, .string ⟨V.toArray⟩] 97) = W4 := ⟨_, rfl⟩
     have hb4 : Below w3.heap.size w3 W4 := by rw [<- hW4]; exact (Below.refl _ w3).alloc (Nat.le_refl _) _
     have hbox : W4.heap[w3.heap.size]? = some (.cells #[.string ⟨T.toArray⟩, .string ⟨V.toArray⟩] 97 (0, 0)) := by rw [<- hW4]; exact heap_alloc_new w3 _
     obtain ⟨d1, d2⟩ := obj2 hbox
     have hb34 := hb3.trans (hb4.mono hb3.size)
     have HB := Hy (An (H2.out.2.1.trans (hb34.mono H2.out.2.1.size)) (ownAv_below H2.out.1 hb34))
     have HH := Hy hb4
     clear hb3 hb34 hbox hb4
     rcases hor with hor | hor
     ·subst hor
      have HI := Hy (show R = ([], 5) by
       rw [HR.out, H.out.2.2.1, rpp, H2.out.2.2.1, HN.out rfl]; rfl)
      have hbT : Below w.heap.size w W4 := HLo.out.2.trans (((H.out.2.1.trans ((HMo.out.2.trans (HB.out.1.mono HMo.out.2.size)).mono H.out.2.1.size)).mono HLo.out.2.size))
      have HF := Hy hbT
      clear hbT
      go_wp2
      go_ret2
      exact rnPost_mk HI.out (dnAt_none _) HF.out
     ·subst hor
      have HI := Hy (show rpsL M = (rpsL (M.drop (k + 1))).map ((Q ++ [(T, V)]) ++ ·) by
       rw [H2.out.2.2.1, HSm.out (T, V) rfl, Option.map_map]; congr 1; funext q; simp)
      go_wp2_with (at_builtin; refine wpList_pushm rfl (.tmp 48) (.tmp 50) 95 97 rfl w2.heap.size 2 32 (.agg #[.string ByteArray.empty, .string ByteArray.empty]) Tryz.dninfo97 Tryz.underlying95 rfl (by decide) 1 [.string ⟨T.toArray⟩, .string ⟨V.toArray⟩] rfl ?c0 _ Q.length _ rfl _ rfl ?c3 HB.out.2 ?c1 ?c2 HB.out.1.size ?_)
      case c0 => intro u hu; simp at hu; rcases hu with rfl | rfl <;> rfl
      case c1 => have := H2.out.2.2.2; unfold maxLen; omega
      case c2 => have := H2.out.2.2.2; omega
      case c3 => first | rfl | simp
      intro v' w' g1 g2
      have g3 : OwnAv w' w2.heap.size 97 v' (Q ++ [(T, V)]) := by unfold OwnAv; rw [avc_app, List.length_append]; exact g1
      have H5 := Hy (An g3 (HB.out.1.trans g2))
      clear g1 g2 g3
      go_wp2
      exact ⟨⟨k + 1, Q ++ [(T, V)], by omega, by go_num, by simp [H2.out.2.2.2], H5.out.1, H5.out.2, HI.out⟩, by simp [intOf]; omega⟩
    ·obtain rfl : k = M.length := by omega
     have hps : rpsL M = some Q := by rw [hinv, List.drop_of_length_le (Nat.le_refl _)]; simp [rpsL]
     have hI : rpp PS = (rpp (PS.drop (i + 1))).map ((D ++ [Q]) ++ ·) := by
      rw [H.out.2.2.1, rpp, hps]
      simp only [Option.map_map]
      congr 1; funext q; simp
     have hlg2 : ((D ++ [Q]).any fun r => decide (8 < r.length)) = (lg || decide (8 < Q.length)) := by rw [any_snoc, H.out.2.2.2.1]
     have hgr := gridA_below (gridA_below H.out.1 HMo.out.2) (hbr.mono (Nat.le_refl _))
     have hap := apart_base (B2 := w1.heap.size) (gridA_below H.out.1 HMo.out.2).2.1 hown (Nat.le_refl _)
     have hbB : Below w1.heap.size w1 wr := H.out.2.1.trans ((HMo.out.2.trans (hbr.mono HMo.out.2.size)).mono H.out.2.1.size)
     have hro : OwnAv wr w1.heap.size 97 (.slice qa Q.length qc) Q := ownsRow_base hown (by have := H.out.2.1.size; have := HMo.out.2.size; omega)
     have hfin := H.out.2.2.2.2.1
     have HX := Hy (An hI (An hlg2 (An hgr (An hap (An hbB hro)))))
     have hq8 : ∃ b, decide (8 < Q.length) = b /\ decide ((8 : Int) < (Q.length : Int)) = b := ⟨_, rfl, by rw [decide_eq_decide]; omega⟩
     obtain ⟨b8, hb8, hb8'⟩ := hq8
     have HQ8 := Hy hb8
     clear hQ hown hbr hinv hps hI hlg2 hgr hap hbB hro hb8
     subst hfin
     cases lg with
     | true =>
      have HLG := Hy (show (true || decide (8 < Q.length)) = true from rfl)
      go_wp2_with (at_builtin; refine wpList_pushc rfl (.tmp 58) (.tmp 60) 91 95 rfl w1.heap.size 1 24 (.slice none 0 0) Tryz.dninfo95 Tryz.underlying91 rfl (by decide) [.slice qa Q.length qc] rfl ?c0 _ D.length _ rfl _ rfl ?c3 HX.out.2.2.1.2.1 ?c1 ?c2 HX.out.2.2.2.2.1.size ?_)
      case c0 => first | rfl | (intro u hu; simp at hu; subst hu; rfl)
      case c1 => unfold maxLen; omega
      case c2 => omega
      case c3 => first | rfl | simp
      intro v' w' g1 g2 g3
      have hg := gridA_snoc HX.out.2.2.1 HX.out.2.2.2.2.2 HX.out.2.2.2.1 g1 g2 g3
      have hbb := below_chg HX.out.2.2.2.2.1 HX.out.2.2.2.2.1.size HX.out.2.2.1.2.1 g2
      have H9 := Hy (An hg hbb)
      clear g1 g2 g3 hg hbb
      go_wp2
      exact ⟨⟨i + 1, vs ++ [.slice qa Q.length qc], D ++ [Q], true, by omega, by go_num, by simp [H.out.2.2.2.2.2], H9.out.1, H9.out.2, rfl, by rw [HX.out.2.1]; rfl, HX.out.1⟩, by simp [intOf]; omega⟩
     | false =>
      go_wp2_with (at_builtin; refine wpList_pushc rfl (.tmp 58) (.tmp 60) 91 95 rfl w1.heap.size 1 24 (.slice none 0 0) Tryz.dninfo95 Tryz.underlying91 rfl (by decide) [.slice qa Q.length qc] rfl ?c0 _ D.length _ rfl _ rfl ?c3 HX.out.2.2.1.2.1 ?c1 ?c2 HX.out.2.2.2.2.1.size ?_)
      case c0 => first | rfl | (intro u hu; simp at hu; subst hu; rfl)
      case c1 => unfold maxLen; omega
      case c2 => omega
      case c3 => first | rfl | simp
      intro v' w' g1 g2 g3
      have hg := gridA_snoc HX.out.2.2.1 HX.out.2.2.2.2.2 HX.out.2.2.2.1 g1 g2 g3
      have hbb := below_chg HX.out.2.2.2.2.1 HX.out.2.2.2.2.1.size HX.out.2.2.1.2.1 g2
      have H9 := Hy (An hg hbb)
      clear g1 g2 g3 hg hbb
      go_wp2
      exact ⟨⟨i + 1, vs ++ [.slice qa Q.length qc], D ++ [Q], b8, by omega, by go_num, by simp [H.out.2.2.2.2.2], H9.out.1, H9.out.2, rfl, by rw [HX.out.2.1, HQ8.out]; rfl, HX.out.1⟩, by simp [intOf]; omega⟩
  ·obtain rfl : i = L.length := by omega
   have hps : rpp PS = some D := by rw [hinv, List.drop_of_length_le (by omega)]; simp [rpp]
   have hty := rpp_ty hps
   have hat := dnAt_grid hgrid
   have hbT : Below w.heap.size w wr := HLo.out.2.trans (hb.mono HLo.out.2.size)
   have hr := HR.out
   rw [hps] at hr
   have hr2 : R = if (lg || decide (32 < D.length)) = true then ([], 3) else if ckD D ≠ 0 then ([], ckD D) else (D, 0) := by
    rw [hr]
    simp only [lgD, hlg]
    rw [Bool.or_comm]
   subst hgv
   have HCk := Hy (rcheck6_any _ D (fun r hr p hp => by have := ty_len (hty r hr p hp); omega) wr hat)
   have H := Hy (An hat (An hbT hr2))
   obtain ⟨N, hN⟩ : ∃ N, D.length = N := ⟨_, rfl⟩
   rw [hN] at hD H HCk ⊢
   clear hgrid hb hinv hps hty hat hbT hr hr2 hlg hD hi hlt hPL hLn
   by_cases hlong : lg = true \/ 32 < N
   ·have HI := Hy (show R = ([], 3) by
     rw [H.out.2.2, if_pos]
     rcases hlong with h | h
     ·rw [h]; rfl
     ·simp [h])
    have hcase : lg = true \/ (lg = false /\ (32 : Int) < (N : Int)) := by
     cases lg with
     | true => exact .inl rfl
     | false => exact .inr ⟨rfl, by rcases hlong with h | h; cases h; omega⟩
    clear hlong
    rcases hcase with rfl | ⟨rfl, q⟩
    all_goals
     go_wp2
     go_ret2
     exact rnPost_mk HI.out (dnAt_none _) H.out.2.1
   ·rw [not_or] at hlong
    have hlgf : lg = false := by simpa using hlong.1
    have q : ¬ (32 : Int) < (N : Int) := by omega
    subst hlgf
    have hI := H.out.2.2
    rw [if_neg (by simp; omega)] at hI
    have HI := Hy hI
    obtain ⟨ck, hck⟩ : ∃ ck, ckD D = ck := ⟨_, rfl⟩
    rw [hck] at HI HCk
    clear hlong hI hck
    by_cases hc0 : ck = 0
    ·subst hc0
     have HI2 := Hy (show R = (D, 0) by rw [HI.out]; simp)
     go_wp2_with fail
     refine HCk.out.mono ?_
     rintro e w3 ⟨rfl, hb3⟩
     have HF := Hy (An (dnAt_below H.out.1 hb3) (H.out.2.1.trans (hb3.mono H.out.2.1.size)))
     clear hb3
     go_wp2
     go_ret2
     exact rnPost_mk HI2.out HF.out.1 HF.out.2
    ·have hq : ((ck : Int) != 0) = true := by rw [bne_iff_ne]; omega
     have HI2 := Hy (show R = ([], ck) by rw [HI.out, if_pos hc0])
     clear hc0
     go_wp2_with fail
     refine HCk.out.mono ?_
     rintro e w3 ⟨rfl, hb3⟩
     have HF := Hy (H.out.2.1.trans (hb3.mono H.out.2.1.size))
     clear hb3
     go_wp2
     go_ret2
     exact rnPost_mk HI2.out (dnAt_none _) HF.out
theorem rread_any (s : ByteArray) (w : World) : Calls Tryz.prog 42 #[.string s] w (RnPost (rdD s.data.toList) w) := by
 have hl := len_list s
 by_cases h1 : 4096 < s.size
 ·have HI := Hy (rd_long (s := s.data.toList) (by omega))
  have q : (4096 : Int) < (s.size : Int) := by omega
  clear h1 hl
  go_enter Tryz.func42, Tryz.ntmps42
  go_wp2
  go_ret2
  exact rnPost_mk HI.out (dnAt_none _) (Below.refl _ _)
 ·by_cases h0 : s.size = 0
  ·have hn : s.data.toList = [] := List.eq_nil_of_length_eq_zero (by omega)
   have HI := Hy (show rdD s.data.toList = ([], 0) by rw [hn]; rfl)
   have q : ¬ (4096 : Int) < (s.size : Int) := by omega
   have hem := str_e s h0
   clear h1 hl h0 hn
   go_enter Tryz.func42, Tryz.ntmps42
   go_wp2
   go_ret2
   exact rnPost_mk HI.out (dnAt_none _) (Below.refl _ _)
  ·exact rread_mid s (by omega) (by omega) w
end Go.Proofs.YtpkbgkoocijegaaGreatDoor
