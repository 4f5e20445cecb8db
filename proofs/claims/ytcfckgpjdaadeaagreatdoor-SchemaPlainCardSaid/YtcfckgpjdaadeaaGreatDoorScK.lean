/- The document's Check: whether an entry may be. -/
import Derived.Test.YtcfckgpjdaadeaaGreatDoorScV
import Derived.Test.YtcfckgpjdaadeaaGreatDoorScQ
namespace Go.Proofs.YtcfckgpjdaadeaaGreatDoor
set_option linter.unusedSimpArgs false
set_option linter.unusedVariables false
open Go Go.RowKit Go.Proofs.BerK Go.Proofs.MemK Go.Proofs.UtfK

theorem chkS_O (T : List Ty) (C : List Cl) (A : List Atr) : chkS T C A = if valO T A ≠ 0 then valO T A else if fitB C ((A.map (tyG T)).map (·.1)) A = false then 65 else 0 := by
  rw [chkS_parts]
  unfold valO
  repeat' split
  all_goals simp_all
theorem valO_zero {T : List Ty} {A : List Atr} (h : valO T A = 0) : tyAll T A = true ∧ (∀ k (hk : k < A.length), A[k].2.length ≠ 0) ∧ ((A.map (tyG T)).map (·.1)).Nodup := by
  have hv : valS T A = 0 := by
    by_cases e : valS T A = 0
    · exact e
    · unfold valO at h; rw [if_pos e] at h; exact absurd h e
  have ho : onS (A.map (tyG T)) A = 0 := by unfold valO at h; rw [hv, if_neg (by simp)] at h; exact h
  have h1 : tyAll T A = true := by
    cases hq : tyAll T A
    · unfold valS at hv; rw [hq] at hv; simp at hv
    · rfl
  refine ⟨h1, fun k hk e => ?_, ?_⟩
  · unfold valS at hv
    rw [h1, empA_yes k hk e] at hv
    simp at hv
  · by_cases hn : ((A.map (tyG T)).map (·.1)).Nodup
    · exact hn
    · rw [on_twice hn] at ho; cases ho
theorem fitK {C : List Cl} {N : List (List UInt8)} {A : List Atr} {own : Nat} (h : ixL N objL = some own) (ho : own < A.length) :
    fitB C N A = (ofOk C A[own].2 && ((A[own].2.filterMap (scC C)).all fun c => c.2.1.all (inL N)) && (N.all fun x => x == objL || inL (alS (A[own].2.filterMap (scC C))) x)) := by
  unfold fitB; rw [h]; simp [ho]
theorem fit_mis {C : List Cl} {N : List (List UInt8)} {A : List Atr} {own : Nat} (h : ixL N objL = some own) (ho : own < A.length) (j : Nat) (hj : j < A[own].2.length) {c : Cl} (hc : scC C A[own].2[j] = some c) (q : Nat) (hq : q < c.2.1.length) (hx : inL N c.2.1[q] = false) : fitB C N A = false := by
  rw [fitK h ho]
  have : ((A[own].2.filterMap (scC C)).all fun c => c.2.1.all (inL N)) = false := by
    rw [List.all_eq_false]
    refine ⟨c, List.mem_filterMap.2 ⟨_, List.getElem_mem hj, hc⟩, ?_⟩
    rw [Bool.not_eq_true, List.all_eq_false]
    exact ⟨_, List.getElem_mem hq, by rw [hx]; simp⟩
  rw [this]; simp
theorem fit_non {C : List Cl} {N : List (List UInt8)} {A : List Atr} {own : Nat} (h : ixL N objL = some own) (ho : own < A.length) (j : Nat) (hj : j < A[own].2.length) (hc : scC C A[own].2[j] = none) : fitB C N A = false := by
  rw [fitK h ho, of_bad j hj hc]; rfl
theorem fit_end {C : List Cl} {N : List (List UInt8)} {A : List Atr} {own : Nat} (h : ixL N objL = some own) (ho : own < A.length) (i : Nat) (hi : i < N.length) (h1 : (N[i] == objL) = false) (h2 : inL (alS (A[own].2.filterMap (scC C))) N[i] = false) : fitB C N A = false := by
  rw [fitK h ho]
  have : (N.all fun x => x == objL || inL (alS (A[own].2.filterMap (scC C))) x) = false := by
    rw [List.all_eq_false]
    exact ⟨_, List.getElem_mem hi, by rw [h1, h2]; simp⟩
  rw [this]; simp
theorem fit_yes {C : List Cl} {N : List (List UInt8)} {A : List Atr} {own : Nat} (h : ixL N objL = some own) (ho : own < A.length) (h1 : ∀ j (hj : j < A[own].2.length), ∃ c, scC C A[own].2[j] = some c ∧ ∀ q (hq : q < c.2.1.length), inL N c.2.1[q] = true)
    (h2 : ∀ i (hi : i < N.length), (N[i] == objL || inL (alS (A[own].2.filterMap (scC C))) N[i]) = true) : fitB C N A = true := by
  rw [fitK h ho]
  have e1 : ofOk C A[own].2 = true := of_good (fun k hk => by obtain ⟨c, hc, _⟩ := h1 k hk; rw [hc]; rfl)
  have e2 : ((A[own].2.filterMap (scC C)).all fun c => c.2.1.all (inL N)) = true := by
    rw [List.all_eq_true]
    intro c hc
    obtain ⟨s, hs, hsc⟩ := List.mem_filterMap.1 hc
    obtain ⟨j, hj, rfl⟩ := List.getElem_of_mem hs
    obtain ⟨c', hc', hm⟩ := h1 j hj
    rw [hsc] at hc'
    injection hc' with hc'
    subst hc'
    rw [List.all_eq_true]
    intro m hmm
    obtain ⟨q, hq, rfl⟩ := List.getElem_of_mem hmm
    exact hm q hq
  have e3 : (N.all fun x => x == objL || inL (alS (A[own].2.filterMap (scC C))) x) = true := by
    rw [List.all_eq_true]
    intro x hx
    obtain ⟨i, hi, rfl⟩ := List.getElem_of_mem hx
    exact h2 i hi
  rw [e1, e2, e3]; rfl
theorem fm_snoc {C : List Cl} {vs : List (List UInt8)} (k : Nat) (hk : k < vs.length) {c : Cl} (h : scC C vs[k] = some c) : alS ((vs.take (k + 1)).filterMap (scC C)) = alS ((vs.take k).filterMap (scC C)) ++ c.2.1 ++ c.2.2 := by
  rw [List.take_succ_eq_append_getElem hk, List.filterMap_append]
  unfold alS
  rw [List.flatMap_append]
  simp [h]
theorem scC_mem9 {C : List Cl} {s : List UInt8} {c : Cl} (h : scC C s = some c) : ∃ d ∈ C, c = (lowL d.1, d.2.1.map lowL, d.2.2.map lowL) := by
  unfold scC at h
  cases hq : C.find? (fun t => lowL t.1 == lowL s) with
  | none => rw [hq] at h; cases h
  | some d =>
    rw [hq] at h
    injection h with h
    exact ⟨d, List.mem_of_find?_eq_some hq, h.symm⟩
/-- Where the classes of an entry lie, as far as it was gone over. -/
def ClsV (w : World) (A : List Atr) (N : List (List UInt8)) (v : Value) : Prop :=
  (ixL N objL = none ∧ v = .slice none 0 0) ∨ ∃ own vs, ixL N objL = some own ∧ A[own]?.map (·.2) = some vs ∧ ∃ va vc, v = .slice va vs.length vc ∧ TxR w v vs
set_option maxHeartbeats 12800000 in
set_option maxRecDepth 100000 in
theorem rchk9_any (T : List Ty) (C : List Cl) (A : List Atr) (tv cv av : Value) (dn : ByteArray) (w : World) (h : TyAt w tv T) (h2 : ClAt w cv C) (hA : AtAt w av A) (hlT : T.length ≤ 1000000) (hlC : C.length ≤ 1000000) (hbT : ∀ t ∈ T, t.1.length ≤ 140737488355328) (hbC : ∀ t ∈ C, t.1.length ≤ 140737488355328)
    (hbm : ∀ t ∈ C, t.2.1.length + t.2.2.length ≤ 1000 ∧ (∀ x ∈ t.2.1, x.length ≤ 140737488355328) ∧ ∀ x ∈ t.2.2, x.length ≤ 140737488355328) (hl : A.length ≤ 1000000)
    (hv : ∀ a ∈ A, a.1.length ≤ 140737488355328 ∧ a.2.length ≤ 1000 ∧ ∀ s ∈ a.2, s.length ≤ 140737488355328) :
    Calls Tryz.prog 18 #[.agg #[tv, cv], .agg #[.string dn, av]] w (ScI (chkS T C A : Nat) w) := by
  have HVa := Lib.hid (fun w' (hb : Below w.heap.size w w') => rvalues9_any T A tv cv av dn w' (tyAt_below h hb) (atAt_below hA hb) hlT hbT hl (fun a ha => ⟨(hv a ha).1, by have := (hv a ha).2.1; omega⟩))
  have HCl := Lib.hid (fun w' (hb : Below w.heap.size w w') s (hs : s.length ≤ 140737488355328) => rclass9f_any C tv cv s w' (clAt_below h2 hb) hlC hbC (fun t ht => ⟨by have := (hbm t ht).1; omega, by have := (hbm t ht).1; omega, (hbm t ht).2⟩) hs)
  have HCm := Lib.hid (show ∀ s c, scC C s = some c → c.2.1.length + c.2.2.length ≤ 1000 from fun s c hsc => by
    obtain ⟨d, hd, rfl⟩ := scC_mem9 hsc
    have := (hbm d hd).1
    simpa using this)
  have hS' : chkS T C A = chkS T C A := rfl
  conv at hS' => rhs; rw [chkS_O]
  obtain ⟨S, hS⟩ : ∃ S, chkS T C A = S := ⟨_, rfl⟩
  rw [hS] at hS' ⊢
  obtain ⟨a, c, rfl, hcells⟩ := hA
  have HM := Lib.hid hcells
  have HV := Lib.hid hv
  obtain ⟨n, hn⟩ : ∃ n, A.length = n := ⟨_, rfl⟩
  have HL := Lib.hid hn
  rw [hn] at hl HVa ⊢
  obtain ⟨W1, hW1⟩ : ∃ W1, (w.alloc (.cells #[tv, cv] 32)).alloc (.cells #[.string dn, .slice a n c] 24) = W1 := ⟨_, rfl⟩
  have HX := Lib.hid (boxes9 hW1)
  have HW1 := Lib.hid hW1
  have hbx := boxes9 hW1
  obtain ⟨s0, s1⟩ := obj2s hbx.1
  obtain ⟨d0, d1⟩ := obj2s hbx.2.1
  rw [← hW1] at s0 s1 d0 d1
  have HVa1 := Lib.hid (HVa.out W1 hbx.2.2.1)
  obtain ⟨K, hK⟩ : ∃ K, valO T A = K := ⟨_, rfl⟩
  rw [hK] at HVa1 hS'
  have HK := Lib.hid hK
  clear hcells hv hn hW1 h h2 hbT hbC hbm hbx hS hK
  by_cases hk0 : K = 0
  case neg =>
    rw [if_pos hk0] at hS'
    have HS := Lib.hid hS'
    have q1 : ((K : Int) != 0) = true := by rw [bne_iff_ne]; omega
    clear hk0 hS'
    go_enter Tryz.func18, Tryz.ntmps18
    go_wp2_with fail
    rw [HW1.out]
    refine HVa1.out.mono ?_
    rintro en w5 ⟨rfl, hb5⟩
    have HB5 := Lib.hid (HX.out.2.2.1.trans (hb5.mono HX.out.2.2.1.size))
    clear hb5 s0 s1 d0 d1
    go_wp2
    go_ret
    exact scI_mk (by rw [HS.out]) HB5.out
  subst hk0
  rw [if_neg (by simp)] at hS'
  obtain ⟨hall, hne, hnd⟩ := valO_zero HK.out
  rw [tyG_name hall] at hS' hnd
  obtain ⟨N, hN⟩ : ∃ N, (A.map fun a => lowL a.1) = N := ⟨_, rfl⟩
  rw [hN] at hS' hnd
  have HN := Lib.hid (show N.length = A.length ∧ ∀ i (h1 : i < N.length) (h2 : i < A.length), N[i] = lowL A[i].1 by subst hN; simp)
  have HSb := Lib.hid (show fitB C N A = false → S = 65 from fun h => by rw [hS', if_pos h])
  have HSg := Lib.hid (show fitB C N A = true → S = 0 from fun h => by rw [hS', if_neg (by rw [h]; simp)])
  have HNd := Lib.hid hnd
  have HNe := Lib.hid hne
  clear hS' hnd hne hall hN
  go_enter Tryz.func18, Tryz.ntmps18
  go_wp2_with fail
  rw [HW1.out]
  refine HVa1.out.mono ?_
  rintro en w5 ⟨rfl, hb5⟩
  have y0 := obj_below HX.out.1 hb5 (obj_lt HX.out.1)
  have y1 := obj_below HX.out.2.1 hb5 (obj_lt HX.out.2.1)
  have hs5 := hb5.size
  have hsw := HX.out.2.2.2
  have H5 := Lib.hid (And.intro y0 (And.intro y1 (HX.out.2.2.1.trans (hb5.mono HX.out.2.2.1.size))))
  clear hb5 s0 s1 d0 d1 y0 y1
  go_wp2
  go_loopw [6, 7, 9] (fun hv cl v wr => ∃ i : Nat, i ≤ n ∧ v = .int .i64 (i : Nat) ∧ wr.ownsRow w5.heap.size 9 1 hv i (sc (N.take i)) ∧ Below w5.heap.size w5 wr ∧ ClsV w A (N.take i) cl) (fun _ _ v _ => n - (intOf v).toNat)
  case atStart => exact ⟨0, by omega, rfl, World.ownsRow_nil _ _ _ _, Below.refl _ _, .inl ⟨rfl, rfl⟩⟩
  case round =>
    obtain ⟨i, hi, rfl, hown, hb, hcls⟩ := hrel
    have hsr := hb.size
    have x0 := obj_below H5.out.1 hb (obj_lt H5.out.1)
    have x1 := obj_below H5.out.2.1 hb (obj_lt H5.out.2.1)
    have hbw := H5.out.2.2.trans (hb.mono H5.out.2.2.size)
    obtain ⟨d0, d1⟩ := obj2s x1
    obtain ⟨ha, hc, rfl⟩ := ownsRow_slice hown
    by_cases hlt : i < n
    · have hil : (i : Int) < (n : Int) := by omega
      have him : i < A.length := by rw [HL.out]; exact hlt
      have hiN : i < N.length := by rw [HN.out.1]; exact him
      obtain ⟨g, o, vl, rfl, hg, e0w, e1w, hvl⟩ := HM.out i him
      obtain ⟨va, vc, rfl, hvx⟩ := hvl
      have e0 := (hbw.cell (p := ⟨g, _, none⟩) hg).trans e0w
      have hbd := HV.out _ (List.getElem_mem him)
      have hnl := HN.out.2 i hiN him
      have HVx := Lib.hid (And.intro e1w hvx)
      obtain ⟨nm, hnm⟩ : ∃ x, A[i].1 = x := ⟨_, rfl⟩
      rw [hnm] at e0 hbd hnl
      have HLo := Lib.hid (fun w => show Calls Tryz.prog 39 #[.string ⟨nm.toArray⟩] w (StrPost (lowL nm) w) from rlow5_any ⟨nm.toArray⟩ hbd.1 w)
      obtain ⟨X, hX⟩ : ∃ x, lowL nm = x := ⟨_, rfl⟩
      rw [hX] at HLo hnl
      have HSn := Lib.hid (show sc (N.take (i + 1)) = sc (N.take i) ++ [.string ⟨X.toArray⟩] by have := sc9_snoc (N := N) i hiN; rw [hnl] at this; exact this)
      have hixs : ixL (N.take (i + 1)) objL = (ixL (N.take i) objL).or (if (X == objL) = true then some i else none) := by
        rw [List.take_succ_eq_append_getElem hiN, ix_snoc, hnl, List.length_take, Nat.min_eq_left (by omega)]
      have HIx := Lib.hid hixs
      have HNx := Lib.hid hnl
      have HI := Lib.hid (And.intro hown (And.intro hb (And.intro hcls (And.intro x1 hbw))))
      clear hown hb hcls x0 x1 hbw e0w e1w hvx hnm hX hnl hbd hixs
      go_wp2_with fail
      refine (HLo.out _).mono ?_
      rintro en w6 ⟨rfl, hb6⟩
      have hs6 := hb6.size
      have HO6 := Lib.hid (ownsRow_below HI.out.1 hb6)
      have HB6 := Lib.hid (HI.out.2.1.trans (hb6.mono hsr))
      have hz6 : w5.heap.size ≤ w6.heap.size := Nat.le_trans hsr hs6
      clear hb6 d0 d1 e0
      go_wp2_with (at_builtin; refine wpList_pushm rfl (.tmp 28) (.tmp 36) 38 9 rfl w5.heap.size 1 16 (.string ByteArray.empty) Tryz.scinfo9 Tryz.underlying38 rfl (by decide) 1 [.string ⟨X.toArray⟩] rfl ?c0 _ i _ rfl _ rfl ?c3 HO6.out ?c1 ?c2 hz6 ?_)
      case c0 => intro u hu; simp at hu; subst hu; rfl
      case c1 => unfold maxLen; omega
      case c2 => omega
      case c3 => first | rfl | simp
      intro v' w7 g1 g2
      obtain ⟨na, nc, rfl⟩ := ownsRow_slice g1
      have hb7 := HB6.out.trans g2
      have hbw7 := H5.out.2.2.trans (hb7.mono H5.out.2.2.size)
      have x1 := obj_below H5.out.2.1 hb7 (obj_lt H5.out.2.1)
      obtain ⟨d0, d1⟩ := obj2s x1
      obtain ⟨g', o', vl', hge, hg', e0w', e1w', hvl'⟩ := HM.out i him
      injection hge with hge
      injection hge with hge1 hge2
      subst hge1 hge2
      have e0 := (hbw7.cell (p := ⟨g, _, none⟩) hg).trans e0w'
      obtain ⟨nm2, hnm2⟩ : ∃ x, A[i].1 = x := ⟨_, rfl⟩
      rw [hnm2] at e0
      have hbd2 := (HV.out _ (List.getElem_mem him)).1
      rw [hnm2] at hbd2
      have hX2 : lowL nm2 = X := by rw [← hnm2, ← HN.out.2 i hiN him]; exact HNx.out
      have HLo2 := Lib.hid (fun w => show Calls Tryz.prog 39 #[.string ⟨nm2.toArray⟩] w (StrPost X w) from (by rw [← hX2]; exact rlow5_any ⟨nm2.toArray⟩ hbd2 w))
      have H7 := Lib.hid (And.intro (show w7.ownsRow w5.heap.size 9 1 (.slice na (i + 1) nc) (i + 1) (sc (N.take (i + 1))) by rw [HSn.out]; exact g1) (And.intro hb7 x1))
      have hs7 := hb7.size
      clear g1 g2 hb7 hbw7 x1 e0w' e1w' hvl' hnm2 hbd2 hX2
      go_wp2_with fail
      refine (HLo2.out _).mono ?_
      rintro en w8 ⟨rfl, hb8⟩
      have row8 := ownsRow_below H7.out.1 hb8
      have hb58 := H7.out.2.1.trans (hb8.mono hs7)
      have hbw8 := H5.out.2.2.trans (hb58.mono H5.out.2.2.size)
      have x1 := obj_below H7.out.2.2 hb8 (obj_lt H7.out.2.2)
      obtain ⟨d0, d1⟩ := obj2s x1
      have e1 := (hbw8.cell (p := ⟨g, _, none⟩) hg).trans HVx.out.1
      have H8 := Lib.hid (And.intro row8 hb58)
      have hvsl : A[i]?.map (·.2) = some A[i].2 := by simp [him]
      have HVs := Lib.hid hvsl
      have HTx := Lib.hid HVx.out.2
      obtain ⟨vs, hvs⟩ : ∃ x, A[i].2 = x := ⟨_, rfl⟩
      rw [hvs] at e1 HVs HTx
      obtain ⟨m, hm⟩ : ∃ x, vs.length = x := ⟨_, rfl⟩
      have HMl := Lib.hid hm
      rw [hm] at e1
      clear hb8 row8 hb58 hbw8 x1 e0 hvsl hvs hm HVx
      cases hq : (X == objL)
      · have hq2 : (X == [111, 98, 106, 101, 99, 116, 99, 108, 97, 115, 115]) = false := hq
        have hcl2 : ClsV w A (N.take (i + 1)) u7 := by
          have hix := HIx.out
          rw [hq] at hix
          simp at hix
          rcases HI.out.2.2.1 with ⟨h1, h2⟩ | ⟨own, ws, h1, h2⟩
          · exact .inl ⟨by rw [hix, h1], h2⟩
          · exact .inr ⟨own, ws, by rw [hix, h1], h2⟩
        have HC2 := Lib.hid hcl2
        clear hq hcl2 e1
        go_wp2
        exact ⟨⟨i + 1, by omega, by go_num, H8.out.1, H8.out.2, HC2.out⟩, by simp [intOf]; omega⟩
      · have hq2 : (X == [111, 98, 106, 101, 99, 116, 99, 108, 97, 115, 115]) = true := hq
        have hnone : ixL (N.take i) objL = none := by
          cases hz : ixL (N.take i) objL with
          | none => rfl
          | some j =>
            have hXo : X = objL := by simpa using hq
            exact absurd HNd.out (nodup_take_not hiN (by rw [HNx.out, hXo]) hz)
        have hcl2 : ClsV w A (N.take (i + 1)) (.slice va m vc) := by
          have hix := HIx.out
          rw [hq, hnone] at hix
          simp at hix
          have htx := HTx.out
          refine .inr ⟨i, vs, hix, HVs.out, va, vc, by rw [HMl.out], ?_⟩
          exact ⟨va, vc, by rw [HMl.out], fun j hj => htx j hj⟩
        have HC2 := Lib.hid hcl2
        clear hq hcl2 hnone
        go_wp2
        exact ⟨⟨i + 1, by omega, by go_num, H8.out.1, H8.out.2, HC2.out⟩, by simp [intOf]; omega⟩
    · obtain rfl : i = n := by omega
      have hNi : N.take i = N := List.take_of_length_le (by rw [HN.out.1, HL.out]; exact Nat.le_refl _)
      rw [hNi] at hown hcls
      rcases hcls with ⟨hix, rfl⟩ | ⟨own, vs, hix, hvs, va, vc, hcv, htx⟩
      · have HS := Lib.hid (HSb.out (fit_none hix))
        have HB := Lib.hid hbw
        clear hown hb hbw x0 x1 hix hNi
        go_wp2
        go_ret
        exact scI_mk (by rw [HS.out]; rfl) HB.out
      · subst hcv
        have hol : own < A.length := by have := ix_lt hix; rw [HN.out.1] at this; exact this
        have hvs2 : A[own].2 = vs := by simpa [hol] using hvs
        have hvl : vs.length ≠ 0 := by rw [← hvs2]; exact HNe.out own hol
        have hvb := HV.out _ (List.getElem_mem hol)
        rw [hvs2] at hvb
        have HVb := Lib.hid hvb.2.2
        have hv1000 := hvb.2.1
        have HNon := Lib.hid (fun j (hj : j < vs.length) (h : scC C vs[j] = none) => (show S = 65 by subst hvs2; exact HSb.out (fit_non hix hol j hj h)))
        have HMis := Lib.hid (fun j (hj : j < vs.length) c (hc : scC C vs[j] = some c) q (hq : q < c.2.1.length) (hx : inL N c.2.1[q] = false) => (show S = 65 by subst hvs2; exact HSb.out (fit_mis hix hol j hj hc q hq hx)))
        have HEnd := Lib.hid (fun p (hp : p < N.length) (h1 : (N[p] == objL) = false) (h2 : inL (alS (vs.filterMap (scC C))) N[p] = false) => (show S = 65 by subst hvs2; exact HSb.out (fit_end hix hol p hp h1 h2)))
        have HYes := Lib.hid (fun (h1 : ∀ j (hj : j < vs.length), ∃ c, scC C vs[j] = some c ∧ ∀ q (hq : q < c.2.1.length), inL N c.2.1[q] = true) (h2 : ∀ p (hp : p < N.length), (N[p] == objL || inL (alS (vs.filterMap (scC C))) N[p]) = true) => (show S = 0 by subst hvs2; exact HSg.out (fit_yes hix hol h1 h2)))
        obtain ⟨m, hm⟩ : ∃ x, vs.length = x := ⟨_, rfl⟩
        have HMl := Lib.hid hm
        rw [hm] at hvl hv1000
        have htr := txR_below htx hbw
        rw [hm] at htr
        have hNl : N.length = i := by rw [HN.out.1, HL.out]
        have htn : TxR wr (.slice ha i hc) N := txR_owns (l := N) (by rw [hNl]; exact hown)
        obtain ⟨W2, hW2⟩ : ∃ W2, W2 = wr := ⟨_, rfl⟩
        subst hW2
        have HTR := Lib.hid (And.intro htr htn)
        have HB2 := Lib.hid (And.intro hbw x0)
        have hmi : ((m : Int) == 0) = false := by rw [beq_eq_false_iff_ne]; omega
        have hz0 := obj_lt x0
        have hzz : W2.heap.size ≤ W2.heap.size := Nat.le_refl _
        have HNl := Lib.hid hNl
        rw [hm]
        clear hown hb hbw x0 x1 hix hNi hvs hvs2 hvb hol hm htx htr htn hNl
        go_wp2
        clear d0 d1
        go_loopw [8, 10] (fun mv v wz => ∃ k : Nat, k ≤ m ∧ v = .int .i64 (k : Nat) ∧ (∃ ln, wz.ownsRow W2.heap.size 9 1 mv ln (sc (alS ((vs.take k).filterMap (scC C)))) ∧ ln ≤ k * 1000) ∧ Below W2.heap.size W2 wz ∧ ∀ j (hj : j < vs.length), j < k → ∃ c, scC C vs[j] = some c ∧ ∀ q (hq : q < c.2.1.length), inL N c.2.1[q] = true) (fun _ v _ => m - (intOf v).toNat)
        case atStart => exact ⟨0, by omega, rfl, ⟨0, World.ownsRow_nil _ _ _ _, by omega⟩, Below.refl _ _, fun j _ h => by omega⟩
        case round =>
          obtain ⟨k, hk, rfl, ⟨ln, hmr, hln⟩, hbz, hgd⟩ := hrel
          have hsr2 := hbz.size
          obtain ⟨ma, mc, rfl⟩ := ownsRow_slice hmr
          by_cases hlk : k < m
          · have hkl : (k : Int) < (m : Int) := by omega
            have hkm : k < vs.length := by rw [HMl.out]; exact hlk
            obtain ⟨_, _, hvv, hcell⟩ := HTR.out.1
            injection hvv with hv1 hv2 hv3
            subst hv1 hv3
            obtain ⟨g, o, rfl, hg, e0w⟩ := hcell k hkm
            clear hv2 hcell
            have e0 := (hbz.cell (p := ⟨g, _, none⟩) hg).trans e0w
            have zg := Nat.lt_of_lt_of_le hg hbz.size
            have x0 := obj_below HB2.out.2 hbz hz0
            obtain ⟨b0, b1⟩ := obj2s x0
            have z0 := obj_lt x0
            have hbW := HB2.out.1.trans (hbz.mono HB2.out.1.size)
            have hbd := HVb.out _ (List.getElem_mem hkm)
            have HNo := Lib.hid (HNon.out k hkm)
            have HMi := Lib.hid (HMis.out k hkm)
            have HFm := Lib.hid (fun c h => fm_snoc (C := C) (vs := vs) k hkm (c := c) h)
            have HNx := Lib.hid (fun (hx : ∃ c, scC C vs[k] = some c ∧ ∀ q (hq : q < c.2.1.length), inL N c.2.1[q] = true) j (hj : j < vs.length) (h : j < k + 1) => (show ∃ c, scC C vs[j] = some c ∧ ∀ q (hq : q < c.2.1.length), inL N c.2.1[q] = true by
              by_cases e : j = k
              · subst e; exact hx
              · exact hgd j hj (by omega)))
            obtain ⟨nm, hnm⟩ : ∃ x, vs[k] = x := ⟨_, rfl⟩
            rw [hnm] at e0 hbd HNo HMi HNx HFm
            have hT := fun w' (hb' : Below wr.heap.size wr w') => HCl.out w' (hbW.trans (hb'.mono hbW.size)) nm hbd
            have HCmn := Lib.hid (HCm.out nm)
            obtain ⟨tt, htt⟩ : ∃ t, scC C nm = t := ⟨_, rfl⟩
            have HI := Lib.hid (And.intro hmr (And.intro hbz hbW))
            rw [htt] at hT
            clear hmr hbz hgd e0w x0 hbW hnm hbd
            cases tt with
            | none =>
              have HT := Lib.hid (fun w' (hb' : Below wr.heap.size wr w') => (hT w' hb').mono (R' := fun en w'' => en = .returned (.tuple #[.agg #[.string ⟨#[]⟩, .slice none 0 0, .slice none 0 0], .bool false]) ∧ Below w'.heap.size w' w'') (fun en w'' h => by
                rcases h with ⟨_, h1, h2⟩ | ⟨c, hc, _⟩
                · exact ⟨h1, h2⟩
                · cases hc))
              have HS := Lib.hid (HNo.out htt)
              clear hT htt
              have kb0 : ∀ ob, (wr.drew.alloc ob).cell? ⟨w.heap.size, 0, none⟩ = some (tv) := fun ob => (((Below.refl wr.drew.heap.size wr.drew).alloc (Nat.le_refl _) ob).cell (p := ⟨w.heap.size, _, none⟩) z0).trans b0
              have kb1 : ∀ ob, (wr.drew.alloc ob).cell? ⟨w.heap.size, 1, none⟩ = some (cv) := fun ob => (((Below.refl wr.drew.heap.size wr.drew).alloc (Nat.le_refl _) ob).cell (p := ⟨w.heap.size, _, none⟩) z0).trans b1
              have ke0 : ∀ ob, (wr.drew.alloc ob).cell? ⟨g, o + k, none⟩ = some (.string ⟨nm.toArray⟩) := fun ob => (((Below.refl wr.drew.heap.size wr.drew).alloc (Nat.le_refl _) ob).cell (p := ⟨g, _, none⟩) zg).trans e0
              have ng : g ≠ wr.heap.size := Nat.ne_of_lt zg
              have nwheapsize : w.heap.size ≠ wr.heap.size := Nat.ne_of_lt z0
              go_wp2_with fail
              go_region_held3 (fun w' => w'.cell? ⟨w.heap.size, 0, none⟩ = some (tv) ∧ w'.cell? ⟨w.heap.size, 1, none⟩ = some (cv) ∧ w'.cell? ⟨g, o + k, none⟩ = some (.string ⟨nm.toArray⟩)) (first | exact ⟨hb0, hb1, he0⟩ | exact ⟨b0, b1, e0⟩ | exact ⟨(ib0 _), (ib1 _), (ie0 _)⟩ | exact ⟨(kb0 _), (kb1 _), (ke0 _)⟩ | exact ⟨((cell_other3 nwheapsize _ _ _ _ _ _ _).trans hb0), ((cell_other3 nwheapsize _ _ _ _ _ _ _).trans hb1), ((cell_other3 ng _ _ _ _ _ _ _).trans he0)⟩ | go_keep)
                (first | (go_at_call 15; (with_reducible refine (HT.out _ (by first | exact (Below.refl _ wr).drew | exact ((Below.refl _ wr).drew.alloc (Nat.le_refl _) _) | exact ((Below.refl _ wr).alloc (Nat.le_refl _) _).drew)).mono ?_); rintro en w5 ⟨rfl, hb5⟩; have hbV : Below wr.heap.size wr w5 := (by first | exact (Below.refl _ wr).drew.trans hb5 | exact ((Below.refl _ wr).drew.alloc (Nat.le_refl _) _).trans (hb5.mono (by simp)) | exact (((Below.refl _ wr).alloc (Nat.le_refl _) _).drew).trans (hb5.mono (by show _ ≤ (wr.alloc _).heap.size; simp))); have hb0 := (hbV.cell (p := ⟨w.heap.size, _, none⟩) z0).trans b0; have ib0 : ∀ ob, (w5.alloc ob).cell? ⟨w.heap.size, 0, none⟩ = some (tv) := (fun ob => (((Below.refl w5.heap.size w5).alloc (Nat.le_refl _) ob).cell (p := ⟨w.heap.size, _, none⟩) (Nat.lt_of_lt_of_le z0 hbV.size)).trans hb0); have hb1 := (hbV.cell (p := ⟨w.heap.size, _, none⟩) z0).trans b1; have ib1 : ∀ ob, (w5.alloc ob).cell? ⟨w.heap.size, 1, none⟩ = some (cv) := (fun ob => (((Below.refl w5.heap.size w5).alloc (Nat.le_refl _) ob).cell (p := ⟨w.heap.size, _, none⟩) (Nat.lt_of_lt_of_le z0 hbV.size)).trans hb1); have he0 := (hbV.cell (p := ⟨g, _, none⟩) zg).trans e0; have ie0 : ∀ ob, (w5.alloc ob).cell? ⟨g, o + k, none⟩ = some (.string ⟨nm.toArray⟩) := (fun ob => (((Below.refl w5.heap.size w5).alloc (Nat.le_refl _) ob).cell (p := ⟨g, _, none⟩) (Nat.lt_of_lt_of_le zg hbV.size)).trans he0); have HV5 := Lib.hid hbV; try (have hbox : w5.heap[wr.heap.size]? = some (.cells #[.string ⟨#[]⟩, .slice none 0 0, .slice none 0 0] 40 (0, 0)) := (by first | exact obj_below (heap_alloc_new wr.drew _) hb5 (by simp) | exact obj_below (w := (wr.alloc _).drew) (heap_alloc_new wr _) hb5 (by show _ < (wr.alloc _).heap.size; simp)); have b0_ := obj_cell hbox 0 _ rfl; have f0_ := obj_free hbox 0; have b1_ := obj_cell hbox 1 _ rfl; have f1_ := obj_free hbox 1; have b2_ := obj_cell hbox 2 _ rfl; have f2_ := obj_free hbox 2; have HB5 := Lib.hid hbox; clear hbox); clear hb5 hbV))
              all_goals
                first
                  | (obtain ⟨W7, hW7⟩ : ∃ W7, (((w5.setCell ⟨wr.heap.size, 0, none⟩ (.string ⟨#[]⟩)).setCell ⟨wr.heap.size, 1, none⟩ (.slice none 0 0)).setCell ⟨wr.heap.size, 2, none⟩ (.slice none 0 0)) = W7 := ⟨_, rfl⟩; have hbx : W7.heap[wr.heap.size]? = some (.cells #[.string ⟨#[]⟩, .slice none 0 0, .slice none 0 0] 40 (0, 0)) := (by rw [← hW7]; exact obj_set3 HB5.out _ _ _); have hb7 : Below wr.heap.size wr W7 := (by rw [← hW7]; exact below_set3 HV5.out (Nat.le_refl _) _ _ _); rw [hW7]; obtain ⟨bx, hbe⟩ : ∃ bx, wr.heap.size = bx := ⟨_, rfl⟩; have HBX := Lib.hid (show wr.heap.size ≤ bx by have := HV5.out.size; omega); rw [hbe] at hbx ⊢; have H7 := Lib.hid (And.intro hbx hb7); clear hbx hb7 hW7 hbe)
                  | (obtain ⟨W7, hW7⟩ : ∃ W7, w5.alloc (.cells #[.string ⟨#[]⟩, .slice none 0 0, .slice none 0 0] 40) = W7 := ⟨_, rfl⟩; have hbx : W7.heap[w5.heap.size]? = some (.cells #[.string ⟨#[]⟩, .slice none 0 0, .slice none 0 0] 40 (0, 0)) := (by rw [← hW7]; exact heap_alloc_new w5 _); have hb7 : Below wr.heap.size wr W7 := (by rw [← hW7]; exact HV5.out.alloc HV5.out.size _); rw [hW7]; obtain ⟨bx, hbe⟩ : ∃ bx, w5.heap.size = bx := ⟨_, rfl⟩; have HBX := Lib.hid (show wr.heap.size ≤ bx by have := HV5.out.size; omega); rw [hbe] at hbx ⊢; have H7 := Lib.hid (And.intro hbx hb7); clear hbx hb7 hW7 hbe)
              all_goals
                try clear hb0 hb1 he0
                try clear ib0 ib1 ie0
                try clear kb0 kb1 ke0
                try clear b0_ f0_
                try clear b1_ f1_
                try clear b2_ f2_
                try clear HB5
                try clear HV5
              all_goals
                have HB := Lib.hid (HI.out.2.2.trans (H7.out.2.mono HI.out.2.2.size))
                try clear b0 b1 e0
                go_wp2
                go_ret
                exact scI_mk (by rw [HS.out]; rfl) HB.out
            | some cc =>
              obtain ⟨cn, Mu, Ma⟩ := cc
              have hcm := HCmn.out _ htt
              have HMi2 := Lib.hid (HMi.out _ htt)
              have HFm2 := Lib.hid (HFm.out _ htt)
              have HNx2 := Lib.hid (fun (hx : ∀ q (hq : q < Mu.length), inL N Mu[q] = true) => HNx.out ⟨_, htt, hx⟩)
              obtain ⟨mn, hmn⟩ : ∃ x, Mu.length = x := ⟨_, rfl⟩
              obtain ⟨yn, hyn⟩ : ∃ x, Ma.length = x := ⟨_, rfl⟩
              have hT2 : ∀ w' (hb' : Below wr.heap.size wr w'), Calls Tryz.prog 15 #[.agg #[tv, cv], .string ⟨nm.toArray⟩] w' (fun en w'' => ∃ am cm ay cy, en = .returned (.tuple #[.agg #[.string ⟨cn.toArray⟩, .slice am mn cm, .slice ay yn cy], .bool true]) ∧ (TxR w'' (.slice am mn cm) Mu ∧ TxR w'' (.slice ay yn cy) Ma ∧ SlOk (.slice am mn cm) ∧ SlOk (.slice ay yn cy) ∧ (∀ g o, am = some ⟨g, o, none⟩ → w'.heap.size ≤ g) ∧ ∀ g o, ay = some ⟨g, o, none⟩ → w'.heap.size ≤ g) ∧ Below w'.heap.size w' w'') := fun w' hb' => (hT w' hb').mono (fun en w'' h => by
                rcases h with ⟨h, _⟩ | ⟨c, hc, am, cm, ay, cy, h1, h2, h3⟩
                · cases h
                · injection hc with hc
                  subst hc
                  simp only [hmn, hyn] at h1 h2
                  exact ⟨am, cm, ay, cy, h1, h2, h3⟩)
              have HT := Lib.hid hT2
              have hcm1 : mn ≤ 1000 := by simp only [hmn, hyn] at hcm; omega
              have hcm2 : yn ≤ 1000 := by simp only [hmn, hyn] at hcm; omega
              have hcm3 : mn + yn ≤ 1000 := by simp only [hmn, hyn] at hcm; omega
              have HMn := Lib.hid (And.intro hmn hyn)
              clear hT hT2 htt hmn hyn hcm
              have kb0 : ∀ ob, (wr.drew.alloc ob).cell? ⟨w.heap.size, 0, none⟩ = some (tv) := fun ob => (((Below.refl wr.drew.heap.size wr.drew).alloc (Nat.le_refl _) ob).cell (p := ⟨w.heap.size, _, none⟩) z0).trans b0
              have kb1 : ∀ ob, (wr.drew.alloc ob).cell? ⟨w.heap.size, 1, none⟩ = some (cv) := fun ob => (((Below.refl wr.drew.heap.size wr.drew).alloc (Nat.le_refl _) ob).cell (p := ⟨w.heap.size, _, none⟩) z0).trans b1
              have ke0 : ∀ ob, (wr.drew.alloc ob).cell? ⟨g, o + k, none⟩ = some (.string ⟨nm.toArray⟩) := fun ob => (((Below.refl wr.drew.heap.size wr.drew).alloc (Nat.le_refl _) ob).cell (p := ⟨g, _, none⟩) zg).trans e0
              have ng : g ≠ wr.heap.size := Nat.ne_of_lt zg
              have nwheapsize : w.heap.size ≠ wr.heap.size := Nat.ne_of_lt z0
              go_wp2_with fail
              go_region_held3 (fun w' => w'.cell? ⟨w.heap.size, 0, none⟩ = some (tv) ∧ w'.cell? ⟨w.heap.size, 1, none⟩ = some (cv) ∧ w'.cell? ⟨g, o + k, none⟩ = some (.string ⟨nm.toArray⟩)) (first | exact ⟨hb0, hb1, he0⟩ | exact ⟨b0, b1, e0⟩ | exact ⟨(ib0 _), (ib1 _), (ie0 _)⟩ | exact ⟨(kb0 _), (kb1 _), (ke0 _)⟩ | exact ⟨((cell_other3 nwheapsize _ _ _ _ _ _ _).trans hb0), ((cell_other3 nwheapsize _ _ _ _ _ _ _).trans hb1), ((cell_other3 ng _ _ _ _ _ _ _).trans he0)⟩ | go_keep)
                (first | (go_at_call 15; (with_reducible refine (HT.out _ (by first | exact (Below.refl _ wr).drew | exact ((Below.refl _ wr).drew.alloc (Nat.le_refl _) _) | exact ((Below.refl _ wr).alloc (Nat.le_refl _) _).drew)).mono ?_); rintro en w5 ⟨am, cm, ay, cy, rfl, hfacts, hb5⟩; have hbV : Below wr.heap.size wr w5 := (by first | exact (Below.refl _ wr).drew.trans hb5 | exact ((Below.refl _ wr).drew.alloc (Nat.le_refl _) _).trans (hb5.mono (by simp)) | exact (((Below.refl _ wr).alloc (Nat.le_refl _) _).drew).trans (hb5.mono (by show _ ≤ (wr.alloc _).heap.size; simp))); have hb0 := (hbV.cell (p := ⟨w.heap.size, _, none⟩) z0).trans b0; have ib0 : ∀ ob, (w5.alloc ob).cell? ⟨w.heap.size, 0, none⟩ = some (tv) := (fun ob => (((Below.refl w5.heap.size w5).alloc (Nat.le_refl _) ob).cell (p := ⟨w.heap.size, _, none⟩) (Nat.lt_of_lt_of_le z0 hbV.size)).trans hb0); have hb1 := (hbV.cell (p := ⟨w.heap.size, _, none⟩) z0).trans b1; have ib1 : ∀ ob, (w5.alloc ob).cell? ⟨w.heap.size, 1, none⟩ = some (cv) := (fun ob => (((Below.refl w5.heap.size w5).alloc (Nat.le_refl _) ob).cell (p := ⟨w.heap.size, _, none⟩) (Nat.lt_of_lt_of_le z0 hbV.size)).trans hb1); have he0 := (hbV.cell (p := ⟨g, _, none⟩) zg).trans e0; have ie0 : ∀ ob, (w5.alloc ob).cell? ⟨g, o + k, none⟩ = some (.string ⟨nm.toArray⟩) := (fun ob => (((Below.refl w5.heap.size w5).alloc (Nat.le_refl _) ob).cell (p := ⟨g, _, none⟩) (Nat.lt_of_lt_of_le zg hbV.size)).trans he0); have HV5 := Lib.hid hbV; have HFa := Lib.hid hfacts; clear hfacts; try (have hbox : w5.heap[wr.heap.size]? = some (.cells #[.string ⟨#[]⟩, .slice none 0 0, .slice none 0 0] 40 (0, 0)) := (by first | exact obj_below (heap_alloc_new wr.drew _) hb5 (by simp) | exact obj_below (w := (wr.alloc _).drew) (heap_alloc_new wr _) hb5 (by show _ < (wr.alloc _).heap.size; simp)); have b0_ := obj_cell hbox 0 _ rfl; have f0_ := obj_free hbox 0; have b1_ := obj_cell hbox 1 _ rfl; have f1_ := obj_free hbox 1; have b2_ := obj_cell hbox 2 _ rfl; have f2_ := obj_free hbox 2; have HB5 := Lib.hid hbox; clear hbox); clear hb5 hbV))
              all_goals
                first
                  | (obtain ⟨W7, hW7⟩ : ∃ W7, (((w5.setCell ⟨wr.heap.size, 0, none⟩ (.string ⟨cn.toArray⟩)).setCell ⟨wr.heap.size, 1, none⟩ (.slice am mn cm)).setCell ⟨wr.heap.size, 2, none⟩ (.slice ay yn cy)) = W7 := ⟨_, rfl⟩; have hbx : W7.heap[wr.heap.size]? = some (.cells #[.string ⟨cn.toArray⟩, .slice am mn cm, .slice ay yn cy] 40 (0, 0)) := (by rw [← hW7]; exact obj_set3 HB5.out _ _ _); have hb7 : Below wr.heap.size wr W7 := (by rw [← hW7]; exact below_set3 HV5.out (Nat.le_refl _) _ _ _); rw [hW7]; have HTX := Lib.hid (show TxR W7 (.slice am mn cm) Mu ∧ TxR W7 (.slice ay yn cy) Ma from (by rw [← hW7]; exact ⟨txR_other3 HFa.out.1 (fun g o e => Nat.ne_of_gt (Nat.lt_of_lt_of_le (by show wr.heap.size < _; simp) (HFa.out.2.2.2.2.1 g o e))) _ _ _ _ _ _, txR_other3 HFa.out.2.1 (fun g o e => Nat.ne_of_gt (Nat.lt_of_lt_of_le (by show wr.heap.size < _; simp) (HFa.out.2.2.2.2.2 g o e))) _ _ _ _ _ _⟩)); obtain ⟨bx, hbe⟩ : ∃ bx, wr.heap.size = bx := ⟨_, rfl⟩; have HBX := Lib.hid (show wr.heap.size ≤ bx by have := HV5.out.size; omega); rw [hbe] at hbx ⊢; have H7 := Lib.hid (And.intro hbx hb7); clear hbx hb7 hW7 hbe)
                  | (obtain ⟨W7, hW7⟩ : ∃ W7, w5.alloc (.cells #[.string ⟨cn.toArray⟩, .slice am mn cm, .slice ay yn cy] 40) = W7 := ⟨_, rfl⟩; have hbx : W7.heap[w5.heap.size]? = some (.cells #[.string ⟨cn.toArray⟩, .slice am mn cm, .slice ay yn cy] 40 (0, 0)) := (by rw [← hW7]; exact heap_alloc_new w5 _); have hb7 : Below wr.heap.size wr W7 := (by rw [← hW7]; exact HV5.out.alloc HV5.out.size _); rw [hW7]; have HTX := Lib.hid (show TxR W7 (.slice am mn cm) Mu ∧ TxR W7 (.slice ay yn cy) Ma from (by rw [← hW7]; exact ⟨txR_below HFa.out.1 ((Below.refl _ w5).alloc (Nat.le_refl _) _), txR_below HFa.out.2.1 ((Below.refl _ w5).alloc (Nat.le_refl _) _)⟩)); obtain ⟨bx, hbe⟩ : ∃ bx, w5.heap.size = bx := ⟨_, rfl⟩; have HBX := Lib.hid (show wr.heap.size ≤ bx by have := HV5.out.size; omega); rw [hbe] at hbx ⊢; have H7 := Lib.hid (And.intro hbx hb7); clear hbx hb7 hW7 hbe)
              all_goals
                try clear hb0 hb1 he0
                try clear ib0 ib1 ie0
                try clear kb0 kb1 ke0
                try clear b0_ f0_
                try clear b1_ f1_
                try clear b2_ f2_
                try clear HB5
                try clear HV5
              all_goals
                obtain ⟨c0, c1, c2⟩ := obj3 H7.out.1
                have hb7 := HI.out.2.1.trans (H7.out.2.mono hsr2)
                have HB7 := Lib.hid hb7
                have hs7 := hb7.size
                have hzb := obj_lt H7.out.1
                have hlt2 : ∀ q, (Value.slice ma ln mc).ownBlock = some q → q < wr.heap.size := fun q hq => (HI.out.1.lt q hq).2
                have HLt := Lib.hid (And.intro hlt2 (show wr.heap.size ≤ W7.heap.size from H7.out.2.size))
                have HR7 := Lib.hid (ownsRow_below HI.out.1 H7.out.2)
                have HFy : Hid (SlOk (.slice am mn cm) ∧ SlOk (.slice ay yn cy) ∧ ∀ g o, ay = some ⟨g, o, none⟩ → wr.heap.size ≤ g) := Lib.hid ⟨HFa.out.2.2.1, HFa.out.2.2.2.1, fun g o e => by
                  have := HFa.out.2.2.2.2.2 g o e
                  first
                    | exact this
                    | exact Nat.le_trans (by show wr.heap.size ≤ (wr.alloc _).heap.size; simp) this⟩
                clear hb7 hlt2
                try clear b0 b1 e0
                go_wp2
                clear c0 c1 c2
                go_loopw [13] (fun v wy => ∃ q : Nat, q ≤ mn ∧ v = .int .i64 (q : Nat) ∧ Below W7.heap.size W7 wy ∧ ∀ p (hp : p < Mu.length), p < q → inL N Mu[p] = true) (fun v _ => mn - (intOf v).toNat)
                case atStart => exact ⟨0, by omega, rfl, Below.refl _ _, fun p _ h => by omega⟩
                case round =>
                  obtain ⟨q, hq, rfl, hby, hgq⟩ := hrel
                  obtain ⟨c0, c1, c2⟩ := obj3 (obj_below H7.out.1 hby hzb)
                  have hbY := HB7.out.trans (hby.mono hs7)
                  have hsy := hby.size
                  by_cases hlq : q < mn
                  · have hql : (q : Int) < (mn : Int) := by omega
                    have hqm : q < Mu.length := by rw [HMn.out.1]; exact hlq
                    obtain ⟨_, _, hvv, hcell⟩ := HTX.out.1
                    injection hvv with hv1 hv2 hv3
                    subst hv1 hv3
                    obtain ⟨g3, o3, rfl, hg3, v0w⟩ := hcell q hqm
                    clear hv2 hcell
                    have v0 := (hby.cell (p := ⟨g3, _, none⟩) hg3).trans v0w
                    have HMq := Lib.hid (HMi2.out q hqm)
                    have HNq := Lib.hid (fun (hx : inL N Mu[q] = true) p (hp : p < Mu.length) (h : p < q + 1) => (show inL N Mu[p] = true by
                      by_cases e : p = q
                      · subst e; exact hx
                      · exact hgq p hp (by omega)))
                    obtain ⟨x, hx⟩ : ∃ x, Mu[q] = x := ⟨_, rfl⟩
                    have hMq := HMq.out
                    rw [hx] at v0 hMq
                    have HXx := Lib.hid hx
                    have HMq2 := Lib.hid hMq
                    have hin := rin_any N x (.slice ha i hc) wr (txR_below HTR.out.2 hbY) (by rw [HNl.out]; omega)
                    have HBy := Lib.hid (And.intro hby (HI.out.2.2.trans ((H7.out.2.trans (hby.mono HLt.out.2)).mono HI.out.2.2.size)))
                    clear hby hbY hgq v0w hx hMq HMq
                    cases hb : inL N x
                    · rw [hb] at hin
                      have HIn := Lib.hid hin
                      have HS := Lib.hid (HMq2.out hb)
                      clear hin hb
                      go_wp2_with fail
                      refine HIn.out.mono ?_
                      rintro en w9 ⟨rfl, hw⟩
                      obtain rfl := hw.symm
                      clear hw
                      go_wp2
                      go_ret
                      exact scI_mk (by rw [HS.out]; rfl) HBy.out.2
                    · rw [hb] at hin
                      have HIn := Lib.hid hin
                      have HN9 := Lib.hid (HNq.out (by rw [HXx.out]; exact hb))
                      clear hin hb
                      go_wp2_with fail
                      refine HIn.out.mono ?_
                      rintro en w9 ⟨rfl, hw⟩
                      obtain rfl := hw.symm
                      clear hw
                      go_wp2
                      exact ⟨⟨q + 1, by omega, by go_num, HBy.out.1, HN9.out⟩, by simp [intOf]; omega⟩
                  · obtain rfl : q = mn := by omega
                    have HN9 := Lib.hid (HNx2.out (fun p hp => hgq p hp (by rw [← HMn.out.1]; exact hp)))
                    have rd1 := rd_txR (txR_below HTX.out.1 hby) HFy.out.1
                    rw [HMn.out.1] at rd1
                    have tx2 := txR_below HTX.out.2 hby
                    have HR9 := Lib.hid (ownsRow_below HR7.out hby)
                    have HRd := Lib.hid (And.intro rd1 tx2)
                    have hz9 : W2.heap.size ≤ wr.heap.size := Nat.le_trans hs7 hsy
                    have HBy := Lib.hid hbY
                    have hbx9 := obj_below H7.out.1 hby hzb
                    have HBx9 := Lib.hid hbx9
                    clear hby hbY hgq rd1 tx2 hbx9
                    go_wp2_with (at_builtin; refine wpList_appendr rfl (.tmp 87) (.tmp 89) 38 9 rfl W2.heap.size 1 16 (.string ByteArray.empty) Tryz.scinfo9 Tryz.underlying38 rfl (by decide) (.slice ma ln mc) ln (sc (alS ((vs.take k).filterMap (scC C)))) rfl HR9.out _ q (sc Mu) rfl HRd.out.1 (sc_one_cell _) (by unfold maxLen; omega) (by omega) hz9 ?_)
                    intro v1 w9 g1 g2 g3
                    obtain ⟨a1, z1, rfl⟩ := ownsRow_slice g1
                    have hb9 := below_chg HBy.out hz9 HR9.out g2
                    have hne : ∀ j, some j = (Value.slice ma ln mc).ownBlock → j ≠ bx := fun j hj e => by
                      have h1 := HLt.out.1 j hj.symm
                      have h2 := HBX.out
                      omega
                    have hbx10 := obj_chg HBx9.out g2 (fun e => hne bx e rfl)
                    obtain ⟨c0, c1, c2⟩ := obj3 hbx10
                    have tx3 : TxR w9 (.slice ay yn cy) Ma := txR_chg HRd.out.2 g2 (fun g o n c e hj => by
                      injection e with e1 e2 e3
                      have h1 := HLt.out.1 g hj.symm
                      have h2 := HFy.out.2.2 g o e1
                      omega)
                    have rd2 := rd_txR tx3 HFy.out.2.1
                    rw [HMn.out.2] at rd2
                    have HR10 := Lib.hid (And.intro g1 (And.intro hb9 rd2))
                    have hz10 := hb9.size
                    clear g1 g2 g3 hb9 hne hbx10 tx3 rd2
                    go_wp2_with (at_builtin; refine wpList_appendr rfl (.tmp 91) (.tmp 93) 38 9 rfl W2.heap.size 1 16 (.string ByteArray.empty) Tryz.scinfo9 Tryz.underlying38 rfl (by decide) (.slice a1 (ln + q) z1) (ln + q) (sc (alS ((vs.take k).filterMap (scC C))) ++ sc Mu) rfl HR10.out.1 _ yn (sc Ma) rfl HR10.out.2.2 (sc_one_cell _) (by unfold maxLen; omega) (by omega) hz10 ?_)
                    intro v2 w10 g1 g2 g3
                    obtain ⟨a2, z2, rfl⟩ := ownsRow_slice g1
                    have hb10 := below_chg HR10.out.2.1 hz10 HR10.out.1 g2
                    have HG := Lib.hid (And.intro (show w10.ownsRow W2.heap.size 9 1 (.slice a2 (ln + q + yn) z2) (ln + q + yn) (sc (alS ((vs.take (k + 1)).filterMap (scC C)))) by
                      rw [HFm2.out, sc_append, sc_append]
                      simpa using g1) hb10)
                    clear g1 g2 g3 hb10 c0 c1 c2
                    go_wp2
                    exact ⟨⟨k + 1, by omega, by go_num, ⟨_, HG.out.1, by omega⟩, HG.out.2, HN9.out⟩, by simp [intOf]; omega⟩
          · obtain rfl : k = m := by omega
            have hvk : vs.take k = vs := List.take_of_length_le (by rw [HMl.out]; exact Nat.le_refl _)
            rw [hvk] at hmr
            obtain ⟨M, hM⟩ : ∃ M, alS (vs.filterMap (scC C)) = M := ⟨_, rfl⟩
            rw [hM] at HEnd HYes hmr
            have hMl : M.length = ln := by have := hmr.1; simpa [sc] using this
            have htm : TxR wr (.slice ma ln mc) M := txR_owns (l := M) (by rw [hMl]; exact hmr)
            have HYs := Lib.hid (HYes.out (fun j hj => hgd j hj (by rw [← HMl.out]; exact hj)))
            obtain ⟨W3, hW3⟩ : ∃ W3, W3 = wr := ⟨_, rfl⟩
            subst hW3
            have HT3 := Lib.hid (And.intro htm (And.intro (txR_below HTR.out.2 hbz) (And.intro hMl (HB2.out.1.trans (hbz.mono HB2.out.1.size)))))
            have hln2 : ln ≤ 1000000 := by omega
            clear hmr hbz hgd hvk hM hMl htm
            go_wp2
            go_loopw [14] (fun v wz => ∃ p : Nat, p ≤ i ∧ v = .int .i64 (p : Nat) ∧ Below W3.heap.size W3 wz ∧ ∀ q (hq : q < N.length), q < p → (N[q] == objL || inL M N[q]) = true) (fun v _ => i - (intOf v).toNat)
            case atStart => exact ⟨0, by omega, rfl, Below.refl _ _, fun q _ h => by omega⟩
            case round =>
              obtain ⟨p, hp, rfl, hbz, hgd⟩ := hrel
              by_cases hlp : p < i
              · have hpl : (p : Int) < (i : Int) := by omega
                have hpN : p < N.length := by rw [HNl.out]; exact hlp
                obtain ⟨_, _, hvv, hcell⟩ := HT3.out.2.1
                injection hvv with hv1 hv2 hv3
                subst hv1 hv3
                obtain ⟨g3, o3, rfl, hg3, v0w⟩ := hcell p hpN
                clear hv2 hcell
                have v0 := (hbz.cell (p := ⟨g3, _, none⟩) hg3).trans v0w
                have HEp := Lib.hid (HEnd.out p hpN)
                have HNq := Lib.hid (fun (hx : (N[p] == objL || inL M N[p]) = true) q (hq : q < N.length) (h : q < p + 1) => (show (N[q] == objL || inL M N[q]) = true by
                  by_cases e : q = p
                  · subst e; exact hx
                  · exact hgd q hq (by omega)))
                obtain ⟨x, hx⟩ : ∃ x, N[p] = x := ⟨_, rfl⟩
                have hEp := HEp.out
                rw [hx] at v0 hEp
                have HXx := Lib.hid hx
                have HEp2 := Lib.hid hEp
                have hin := rin_any M x (.slice ma ln mc) wr (txR_below HT3.out.1 hbz) (by rw [HT3.out.2.2.1]; omega)
                have HBz := Lib.hid (And.intro hbz (HT3.out.2.2.2.trans (hbz.mono HT3.out.2.2.2.size)))
                clear hbz hgd v0w hx hEp HEp
                cases hb1 : (x == objL)
                · have hq2 : (x == [111, 98, 106, 101, 99, 116, 99, 108, 97, 115, 115]) = false := hb1
                  cases hb2 : inL M x
                  · rw [hb2] at hin
                    have HIn := Lib.hid hin
                    have HS := Lib.hid (HEp2.out hb1 hb2)
                    clear hin hb1 hb2
                    go_wp2_with fail
                    refine HIn.out.mono ?_
                    rintro en w9 ⟨rfl, hw⟩
                    obtain rfl := hw.symm
                    clear hw
                    go_wp2
                    go_ret
                    exact scI_mk (by rw [HS.out]; rfl) HBz.out.2
                  · rw [hb2] at hin
                    have HIn := Lib.hid hin
                    have HN9 := Lib.hid (HNq.out (by rw [HXx.out, hb2]; simp))
                    clear hin hb1 hb2
                    go_wp2_with fail
                    refine HIn.out.mono ?_
                    rintro en w9 ⟨rfl, hw⟩
                    obtain rfl := hw.symm
                    clear hw
                    go_wp2
                    exact ⟨⟨p + 1, by omega, by go_num, HBz.out.1, HN9.out⟩, by simp [intOf]; omega⟩
                · have hq2 : (x == [111, 98, 106, 101, 99, 116, 99, 108, 97, 115, 115]) = true := hb1
                  have HN9 := Lib.hid (HNq.out (by rw [HXx.out, hb1]; rfl))
                  clear hin hb1
                  go_wp2
                  exact ⟨⟨p + 1, by omega, by go_num, HBz.out.1, HN9.out⟩, by simp [intOf]; omega⟩
              · obtain rfl : p = i := by omega
                have HS := Lib.hid (HYs.out (fun q hq => hgd q hq (by rw [← HNl.out]; exact hq)))
                have HB := Lib.hid (HT3.out.2.2.2.trans (hbz.mono HT3.out.2.2.2.size))
                clear hbz hgd
                go_wp2
                go_ret
                exact scI_mk (by rw [HS.out]; rfl) HB.out
end Go.Proofs.YtcfckgpjdaadeaaGreatDoor
