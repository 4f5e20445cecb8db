/- Whether a name has too many parts, or pairs; and Read, for every text. -/
import Derived.Test.YtlopmppiihhnnaaGreatDoorDnAA
import Derived.Test.YtlopmppiihhnnaaGreatDoorDnFG
namespace Go.Proofs.YtlopmppiihhnnaaGreatDoor
set_option linter.unusedSimpArgs false
set_option linter.unusedVariables false
open Go Go.RowKit Go.Proofs.BerK Go.Proofs.MemK Go.Proofs.UtfK

set_option maxHeartbeats 800000 in
theorem dlong1_any (a : Option Addr) (n c : Nat) (w : World) : Calls Tryz.prog 81 #[.slice a n c] w (PureB (decide (8 < n)) w) := by
  go_enter Tryz.func81, Tryz.ntmps81
  go_wp2
  go_ret
  exact pureB_mk (by rw [Bool.eq_iff_iff]; simp only [decide_eq_true_eq]; omega)
theorem long_take (d : List (List Av)) (k : Nat) (h : k < d.length) (h1 : (d.take k).any (fun r => decide (8 < r.length)) = false) : (d.take (k + 1)).any (fun r => decide (8 < r.length)) = decide (8 < d[k].length) := by
  rw [any_take (fun r : List Av => decide (8 < r.length)) d k h, h1, Bool.false_or]
set_option maxHeartbeats 1600000 in
set_option maxRecDepth 100000 in
theorem dlongf_any (v : Value) (d : List (List Av)) (w : World) (h : DnAt w v d) (hr : d.length ≤ 9223372036854775807) :
    Calls Tryz.prog 106 #[v, .func (.func 81) #[] #[]] w
      (fun e w' => (∃ n : Int, e = .returned (.int .i64 n) ∧ decide (n ≥ 0) = d.any fun r => decide (8 < r.length)) ∧ w' = w) := by
  obtain ⟨a, c, rfl, hcap, h⟩ := h
  have HH := Lib.hid h
  clear h
  go_enter Tryz.func106, Tryz.ntmps106
  go_wp2
  go_loop [8] (fun v => ∃ k : Nat, k ≤ d.length ∧ v = .int .i64 (k : Nat) ∧ (d.take k).any (fun r => decide (8 < r.length)) = false) (fun v => d.length - (intOf v).toNat)
  case atStart => exact ⟨0, by omega, rfl, rfl⟩
  case round =>
    obtain ⟨k, hk, rfl, hany⟩ := hrel
    by_cases hlt : k < d.length
    · obtain ⟨g, o, u, rfl, hg, c1, hav⟩ := HH.out k hlt
      have hkl : (k : Int) < (d.length : Int) := by omega
      have hstep := long_take d k hlt hany
      obtain ⟨r, hr⟩ : ∃ r, d[k] = r := ⟨_, rfl⟩
      rw [hr] at hav hstep
      obtain ⟨ua, uc, hu, _, _⟩ := hav
      subst hu
      have HC := Lib.hid (dlong1_any ua r.length uc)
      obtain ⟨q, hq⟩ : ∃ q, decide (8 < r.length) = q := ⟨_, rfl⟩
      rw [hq] at HC hstep
      have H := Lib.hid hstep
      clear hany hstep hr hq
      cases q
      · go_wp2_with fail
        refine (HC.out _).mono ?_
        rintro e w2 ⟨rfl, hw⟩
        obtain rfl := hw.symm
        go_wp2
        refine ⟨⟨k + 1, by omega, by go_num, H.out⟩, by simp [intOf]; omega⟩
      · go_wp2_with fail
        refine (HC.out _).mono ?_
        rintro e w2 ⟨rfl, hw⟩
        obtain rfl := hw.symm
        go_wp2
        go_ret
        refine ⟨⟨k, rfl, ?_⟩, rfl⟩
        have h9 := H.out
        have h10 : (d.any fun r => decide (8 < r.length)) = true := by
          rw [List.any_eq_true] at h9 ⊢
          obtain ⟨x, hx, hp⟩ := h9
          exact ⟨x, List.mem_of_mem_take hx, hp⟩
        rw [h10]; simp
    · obtain rfl : k = d.length := by omega
      rw [List.take_length] at hany
      have H := Lib.hid hany
      clear hany
      go_wp2
      go_ret
      exact ⟨⟨-1, rfl, by rw [H.out]; rfl⟩, rfl⟩
set_option maxHeartbeats 800000 in
set_option maxRecDepth 100000 in
theorem dlong_any (v : Value) (d : List (List Av)) (w : World) (h : DnAt w v d) (hr : d.length ≤ 9223372036854775807) :
    Calls Tryz.prog 60 #[v] w (PureB (lgD d) w) := by
  have HC := Lib.hid (dlongf_any v d w h hr)
  obtain ⟨a, c, rfl, hcap, _⟩ := h
  by_cases h0 : 32 < d.length
  · have H := Lib.hid (show lgD d = true by simp only [lgD, Bool.or_eq_true, decide_eq_true_eq]; exact .inl h0)
    have h1 : (32 : Int) < (d.length : Int) := by omega
    clear h0
    go_enter Tryz.func60, Tryz.ntmps60
    go_wp2
    go_ret
    exact pureB_mk H.out
  · have h1 : (d.length : Int) ≤ 32 := by omega
    have H := Lib.hid (show lgD d = d.any fun r => decide (8 < r.length) by simp only [lgD]; rw [show decide (32 < d.length) = false by simp; omega]; rfl)
    clear h0
    go_enter Tryz.func60, Tryz.ntmps60
    go_wp2_with fail
    go_in
    go_wp2_with fail
    refine HC.out.mono ?_
    rintro e w2 ⟨⟨n, rfl, hn⟩, hw⟩
    obtain rfl := hw.symm
    have HN := Lib.hid hn
    clear hn
    go_wp2
    go_ret
    refine pureB_mk ?_
    rw [H.out, ← HN.out, show decide ((32 : Int) < (d.length : Int)) = false by simp; omega]
    rfl

/-! ### Read -/
/-- What Read hands back: a name that is laid anew, or none. -/
def RdPost (p : List (List Av) × Nat) (e1 e2 : TypeId) (w : World) (en : Ending) (w' : World) : Prop :=
  (p.1 = [] ∧ en = .returned (.tuple #[.slice none 0 0, .int .i64 (p.2 : Nat)]) ∧ Below w.heap.size w w') ∨
  (p.2 = 0 ∧ ∃ g gs, en = .returned (.tuple #[rowV g p.1.length, .int .i64 0]) ∧ DnBlk w' w.heap.size g gs p.1 0 e1 e2 ∧ Below w.heap.size w w')
theorem rdPost_none {p : List (List Av) × Nat} {n : Nat} {e1 e2 : TypeId} {w w' : World} (h : p = ([], n)) (hb : Below w.heap.size w w') : RdPost p e1 e2 w (.returned (.tuple #[.slice none 0 0, .int .i64 (n : Nat)])) w' := by subst h; exact .inl ⟨rfl, rfl, hb⟩
theorem rdPost_some {p : List (List Av) × Nat} {D : List (List Av)} {e1 e2 : TypeId} {w w' : World} {g : Nat} {gs : List Nat} (h : p = (D, 0)) (hd : DnBlk w' w.heap.size g gs D 0 e1 e2) (hb : Below w.heap.size w w') : RdPost p e1 e2 w (.returned (.tuple #[rowV g D.length, .int .i64 0])) w' := by
  subst h; exact .inr ⟨rfl, g, gs, rfl, hd, hb⟩
def SplLen (s : List UInt8) : Prop := (splG s).1.length ≤ s.length ∧ (∀ x ∈ (splG s).2.1, x.length ≤ s.length) ∧ (splG s).2.1.length ≤ s.length ∧ (splG s).2.2.length ≤ s.length ∧ ∀ p ∈ (splG s).2.2, p.length ≤ s.length + 1 ∧ ∀ x ∈ p, x.length ≤ s.length
theorem splG_len : ∀ (n : Nat) (s : List UInt8), s.length = n → SplLen s := by
  intro n
  induction n using Nat.strongRecOn with
  | _ n ih =>
    intro s hs
    cases s with
    | nil => simp [SplLen, splG]
    | cons c r =>
      by_cases h92 : c = 92
      · subst h92
        have hd : ((92 :: r).drop 2).length = (92 :: r : List UInt8).length - 2 := by simp
        obtain ⟨h1, h2, h3, h4, h5⟩ := ih ((92 :: r).drop 2).length (by rw [hd]; simp at hs ⊢; omega) _ rfl
        unfold SplLen
        rw [splG_slash]
        refine ⟨by rw [List.length_append]; have : ((92 :: r : List UInt8).take 2).length = min 2 (92 :: r : List UInt8).length := List.length_take; omega, fun x hx => ?_, ?_, ?_, fun p hp => ⟨?_, fun x hx => ?_⟩⟩
        · have := h2 x hx; omega
        · show (splG ((92 :: r).drop 2)).2.1.length ≤ _; omega
        · show (splG ((92 :: r).drop 2)).2.2.length ≤ _; omega
        · have := (h5 p hp).1; omega
        · have := (h5 p hp).2 x hx; omega
      · obtain ⟨h1, h2, h3, h4, h5⟩ := ih r.length (by simp at hs; omega) r rfl
        by_cases h43 : c = 43
        · subst h43
          unfold SplLen
          rw [splG_plus]
          refine ⟨by simp, fun x hx => ?_, by simp; omega, by show (splG r).2.2.length ≤ _; simp; omega, fun p hp => ⟨?_, fun x hx => ?_⟩⟩
          · rcases List.mem_cons.1 hx with rfl | hx
            · simp; omega
            · have := h2 x hx; simp; omega
          · have := (h5 p hp).1; simp; omega
          · have := (h5 p hp).2 x hx; simp; omega
        · by_cases h44 : c = 44
          · subst h44
            unfold SplLen
            rw [splG_comma]
            refine ⟨by simp, fun x hx => by simp at hx, by simp, by simp; omega, fun p hp => ?_⟩
            rcases List.mem_cons.1 hp with rfl | hp
            · refine ⟨by simp; omega, fun x hx => ?_⟩
              rcases List.mem_cons.1 hx with rfl | hx
              · simp; omega
              · have := h2 x hx; simp; omega
            · exact ⟨by have := (h5 p hp).1; simp; omega, fun x hx => by have := (h5 p hp).2 x hx; simp; omega⟩
          · unfold SplLen
            rw [splG_else c r h92 h43 h44]
            exact ⟨by simp; omega, fun x hx => by have := h2 x hx; simp; omega, by show (splG r).2.1.length ≤ _; simp; omega, by show (splG r).2.2.length ≤ _; simp; omega, fun p hp => ⟨by have := (h5 p hp).1; simp; omega, fun x hx => by have := (h5 p hp).2 x hx; simp; omega⟩⟩
theorem splL_len (s : List UInt8) : (splL s).length ≤ s.length + 1 ∧ (∀ p ∈ splL s, p.length ≤ s.length + 1) ∧ ∀ p ∈ splL s, ∀ x ∈ p, x.length ≤ s.length := by
  obtain ⟨h1, h2, h3, h4, h5⟩ := splG_len s.length s rfl
  unfold splL splT
  refine ⟨by simp; omega, fun p hp => ?_, fun p hp x hx => ?_⟩
  · rcases List.mem_cons.1 hp with rfl | hp
    · simp; omega
    · exact (h5 p hp).1
  · rcases List.mem_cons.1 hp with rfl | hp
    · simp at hx
      rcases hx with rfl | hx
      · exact h1
      · exact h2 x hx
    · exact (h5 p hp).2 x hx

theorem rdD_long (s : List UInt8) (h : 4096 < s.length) : rdD s = ([], 3) := by rw [rdD, if_pos h]
theorem rdD_nil : rdD [] = ([], 0) := rfl
theorem rdD_form (s : List UInt8) (h : ¬ 4096 < s.length) (h2 : s ≠ []) (h3 : rpp (splL s) = none) : rdD s = ([], 5) := by rw [rdD, if_neg h, if_neg h2, h3]
theorem rdD_some (s : List UInt8) (h : ¬ 4096 < s.length) (h2 : s ≠ []) {d : List (List Av)} (h3 : rpp (splL s) = some d) : rdD s = if lgD d = true then ([], 3) else if ckD d ≠ 0 then ([], ckD d) else (d, 0) := by rw [rdD, if_neg h, if_neg h2, h3]
theorem rpp_len {ps : List (List (List UInt8))} {d : List (List Av)} (h : rpp ps = some d) : d.length = ps.length := by
  induction ps generalizing d with
  | nil => simp [rpp] at h; subst h; rfl
  | cons p r ih =>
    unfold rpp at h
    cases hp : rpsL p with
    | none => rw [hp] at h; cases h
    | some q =>
      rw [hp] at h
      cases hr : rpp r with
      | none => rw [hr] at h; cases h
      | some e => rw [hr] at h; simp at h; subst h; simp [ih hr]

set_option maxHeartbeats 3200000 in
set_option maxRecDepth 100000 in
theorem dread_any (s : ByteArray) (w : World) (he : ErrOk w) :
    Calls Tryz.prog 38 #[.string s] w (RdPost (rdD s.data.toList) 65 63 w) := by
  have hl := len_list s
  by_cases h0 : 4096 < s.size
  · have H := Lib.hid (rdD_long s.data.toList (by omega))
    have h1 : (4096 : Int) < (s.size : Int) := by omega
    clear h0 hl he
    go_enter Tryz.func38, Tryz.ntmps38
    go_wp2
    go_ret2
    exact rdPost_none (n := 3) H.out (Below.refl _ _)
  have h1 : (s.size : Int) ≤ 4096 := by omega
  by_cases hz : s.size = 0
  · have hn : s.data.toList = [] := List.eq_nil_of_length_eq_zero (by omega)
    have H := Lib.hid (show rdD s.data.toList = ([], 0) by rw [hn]; rfl)
    have hem := str_e s hz
    clear h0 hl he hz hn
    go_enter Tryz.func38, Tryz.ntmps38
    go_wp2
    go_ret2
    exact rdPost_none (n := 0) H.out (Below.refl _ _)
  have hem := str_ne s (by omega)
  have hne : s.data.toList ≠ [] := fun e => by rw [e] at hl; simp at hl; omega
  have HSp := Lib.hid (dsplit_any s (by omega) w)
  obtain ⟨q1, q2, q3⟩ := splL_len s.data.toList
  have HP := Lib.hid (fun v w' (hg : GridR w' v (splL s.data.toList)) (he' : ErrOk w') => dparts_any v _ w' hg he' (by omega) (fun p hp => by have := q2 p hp; omega) (fun p hp x hx => by have := q3 p hp x hx; omega))
  have HF := Lib.hid (rdD_form s.data.toList (by omega) hne)
  have HS := Lib.hid (fun d => rdD_some s.data.toList (by omega) hne (d := d))
  have HL := Lib.hid (fun d (h : rpp (splL s.data.toList) = some d) => show d.length ≤ 5000 by rw [rpp_len h]; omega)
  have HE := Lib.hid he
  obtain ⟨o, ho⟩ : ∃ o, rpp (splL s.data.toList) = o := ⟨_, rfl⟩
  rw [ho] at HP HF HS HL
  clear h0 hl he hz hne ho q1 q2 q3
  go_enter Tryz.func38, Tryz.ntmps38
  go_wp2_with fail
  refine HSp.out.mono ?_
  rintro e w2 ⟨v, vs, rfl, hg, hb⟩
  have HPP := Lib.hid (HP.out v w2 (gridR_of hg) (errOk_below HE.out hb))
  obtain ⟨va, vc, rfl⟩ := ownsRow_slice hg.2.1
  have HB := Lib.hid hb
  clear hg hb
  cases o with
  | none =>
    change Hid (Calls Tryz.prog _ _ w2 fun en w' => en = .returned (.tuple #[.slice none 0 0, .bool false]) ∧ Below w2.heap.size w2 w') at HPP
    go_wp2_with fail
    refine HPP.out.mono ?_
    rintro e w3 ⟨rfl, hb3⟩
    go_wp2
    go_ret2
    exact rdPost_none (n := 5) (HF.out (by first | rfl | trivial)) (HB.out.trans (hb3.mono HB.out.size))
  | some d =>
    change Hid (Calls Tryz.prog _ _ w2 fun en w' => ∃ g gs, en = .returned (.tuple #[rowV g d.length, .bool true]) ∧ DnBlk w' w2.heap.size g gs d 0 _ _ ∧ Below w2.heap.size w2 w') at HPP
    go_wp2_with fail
    refine HPP.out.mono ?_
    rintro e w3 ⟨g, gs, rfl, hd, hb3⟩
    unfold rowV
    have HLg := Lib.hid (dlong_any _ d w3 (dnAt_blk hd) (by have := HL.out d rfl; omega))
    have HCk := Lib.hid (dcheck_any _ d w3 (dnAt_blk hd))
    unfold rowV at HLg HCk
    have HR := Lib.hid (HS.out d rfl)
    have H3 := Lib.hid (And.intro (HB.out.trans (hb3.mono HB.out.size)) (And.intro hd HB.out.size))
    clear hd hb3
    obtain ⟨lg, hlg⟩ : ∃ b, lgD d = b := ⟨_, rfl⟩
    obtain ⟨ck, hck⟩ : ∃ n, ckD d = n := ⟨_, rfl⟩
    rw [hlg, hck] at HR
    rw [hlg] at HLg
    rw [hck] at HCk
    clear hlg hck
    cases lg with
    | true =>
      go_wp2_with fail
      refine HLg.out.mono ?_
      rintro e w4 ⟨rfl, hw⟩
      obtain rfl := hw.symm
      go_wp2
      go_ret2
      exact rdPost_none (n := 3) HR.out H3.out.1
    | false =>
      by_cases hck : ck = 0
      · have HR2 := Lib.hid (show rdD s.data.toList = (d, 0) by rw [HR.out, hck]; rfl)
        subst hck
        go_wp2_with fail
        refine HLg.out.mono ?_
        rintro e w4 ⟨rfl, hw⟩
        obtain rfl := hw.symm
        go_wp2_with fail
        refine HCk.out.mono ?_
        rintro e w4 ⟨rfl, hb4⟩
        have H4 := Lib.hid (And.intro (blk_below H3.out.2.1 hb4) (H3.out.1.trans (hb4.mono H3.out.1.size)))
        clear hb4
        go_wp2
        go_ret2
        have h9 := H4.out.1
        exact rdPost_some (gs := gs) HR2.out ⟨Nat.le_trans H3.out.2.2 h9.base, h9.len, h9.outer, fun i hi hi' => ⟨Nat.le_trans H3.out.2.2 (h9.rows i hi hi').1, (h9.rows i hi hi').2⟩, h9.nodup⟩ H4.out.2
      · have HR2 := Lib.hid (show rdD s.data.toList = ([], ck) by rw [HR.out, if_neg (by simp), if_pos hck])
        have hq : ((ck : Int) != 0) = true := by simp; omega
        clear hck
        go_wp2_with fail
        refine HLg.out.mono ?_
        rintro e w4 ⟨rfl, hw⟩
        obtain rfl := hw.symm
        go_wp2_with fail
        refine HCk.out.mono ?_
        rintro e w4 ⟨rfl, hb4⟩
        have H4 := Lib.hid (H3.out.1.trans (hb4.mono H3.out.1.size))
        clear hb4
        go_wp2
        go_ret2
        exact rdPost_none HR2.out H4.out
end Go.Proofs.YtlopmppiihhnnaaGreatDoor
