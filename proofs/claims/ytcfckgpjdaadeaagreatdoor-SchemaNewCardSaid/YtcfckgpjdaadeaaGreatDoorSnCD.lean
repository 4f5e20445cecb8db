/- The code's slices.IndexFunc and slices.ContainsFunc over types and classes. The code's table of types, filled. -/
import Derived.Test.YtcfckgpjdaadeaaGreatDoorSnAB
import Derived.Test.YtcfckgpjdaadeaaGreatDoorScAB
import Derived.Test.YtcfckgpjdaadeaaGreatDoorGenB
namespace Go.Proofs.YtcfckgpjdaadeaaGreatDoor
set_option linter.unusedSimpArgs false
set_option linter.unusedVariables false
open Go Go.RowKit Go.Proofs.BerK Go.Proofs.MemK Go.Proofs.UtfK

theorem any_at {α : Type} {l : List α} {q : α → Bool} (i : Nat) (hi : i < l.length) (h : q l[i] = true) : l.any q = true := by
  rw [List.any_eq_true]; exact ⟨l[i], List.getElem_mem hi, h⟩
theorem any_no {α : Type} {l : List α} {q : α → Bool} (h : ∀ i (hi : i < l.length), q l[i] = false) : l.any q = false := by
  rw [List.any_eq_false]
  intro x hx
  obtain ⟨j, hj, rfl⟩ := List.getElem_of_mem hx
  simp [h j hj]
theorem slOk_form {v : Value} (h : SlOk v) : ∃ a n c, v = .slice a n c := by
  rcases h with rfl | ⟨ad, n, c, rfl⟩
  · exact ⟨_, _, _, rfl⟩
  · exact ⟨_, _, _, rfl⟩
/-- What an index is handed back as: none below 0. -/
def IxPost (b : Bool) (w : World) (en : Ending) (w' : World) : Prop := ∃ n : Int, en = .returned (.int .i64 n) ∧ decide (0 ≤ n) = b ∧ Below w.heap.size w w'
set_option maxHeartbeats 1600000 in
set_option maxRecDepth 100000 in
theorem cnT1i_any (T : List Ty) (tv : Value) (w : World) (h : TyAt w tv T) (hl : T.length ≤ 1000000) :
    Calls Tryz.prog 117 #[tv, .func (.func 85) #[] #[]] w (IxPost (T.any fun t => !tyL t.1) w) := by
  obtain ⟨a, c, rfl, hcells⟩ := h
  have HM := Lib.hid hcells
  obtain ⟨n, hn⟩ : ∃ n, T.length = n := ⟨_, rfl⟩
  have HL := Lib.hid hn
  have HY := Lib.hid (any_at (l := T) (q := fun t => !tyL t.1))
  have HN := Lib.hid (any_no (l := T) (q := fun t => !tyL t.1))
  obtain ⟨R, hR⟩ : ∃ R, (T.any fun t => !tyL t.1) = R := ⟨_, rfl⟩
  rw [hR] at HY HN ⊢
  rw [hn] at hl ⊢
  clear hcells hn hR
  go_enter Tryz.func117, Tryz.ntmps117
  go_wp2
  go_loopw [8] (fun v wr => ∃ k : Nat, k ≤ n ∧ v = .int .i64 (k : Nat) ∧ Below w.heap.size w wr ∧ ∀ j (hj : j < T.length), j < k → (!tyL T[j].1) = false) (fun v _ => n - (intOf v).toNat)
  case atStart => exact ⟨0, by omega, rfl, Below.refl _ _, fun j _ h => by omega⟩
  case round =>
    obtain ⟨k, hk, rfl, hb, hall⟩ := hrel
    have hsr := hb.size
    by_cases hlt : k < n
    · have hkl : (k : Int) < (n : Int) := by omega
      have hkm : k < T.length := by rw [HL.out]; exact hlt
      obtain ⟨g, o, rfl, hg, e0w, e1w, e2w⟩ := HM.out k hkm
      have e0 := (hb.cell (p := ⟨g, _, none⟩) hg).trans e0w
      have e1 := (hb.cell (p := ⟨g, _, none⟩) hg).trans e1w
      have e2 := (hb.cell (p := ⟨g, _, none⟩) hg).trans e2w
      obtain ⟨bq, hbq⟩ : ∃ b, (!tyL T[k].1) = b := ⟨_, rfl⟩
      have HYk := Lib.hid (fun hx => HY.out k hkm (by rw [hbq]; exact hx))
      have HA := Lib.hid (fun (hx : bq = false) j (hj : j < T.length) (hjk : j < k + 1) => (show (!tyL T[j].1) = false by
        by_cases hjj : j = k
        · subst hjj; rw [hbq]; exact hx
        · exact hall j hj (by omega)))
      obtain ⟨nm, hnm⟩ : ∃ x, T[k].1 = x := ⟨_, rfl⟩
      obtain ⟨rl, hrl⟩ : ∃ x, T[k].2.1 = x := ⟨_, rfl⟩
      obtain ⟨sg, hsg⟩ : ∃ x, T[k].2.2 = x := ⟨_, rfl⟩
      rw [hnm] at e0
      rw [hrl] at e1
      rw [hsg] at e2
      have HF := Lib.hid (fun w => show Calls Tryz.prog 85 #[.agg #[.string ⟨nm.toArray⟩, .int .i64 rl, .bool sg]] w (BB bq w) by have := snp1_any ⟨(T[k].1).toArray⟩ (T[k].2.1) (T[k].2.2) w; rw [← hnm, ← hrl, ← hsg, ← hbq]; exact this)
      have HB := Lib.hid hb
      clear hb hall e0w e1w e2w hbq hnm hrl hsg
      go_wp2_with fail
      refine (HF.out _).mono ?_
      rintro en w5 ⟨rfl, hb5⟩
      have HB5 := Lib.hid (HB.out.trans (hb5.mono hsr))
      clear hb5 e0 e1 e2
      cases bq
      · have H := Lib.hid (HA.out rfl)
        go_wp2
        exact ⟨⟨k + 1, by omega, by go_num, HB5.out, H.out⟩, by simp [intOf]; omega⟩
      · have H := Lib.hid (HYk.out rfl)
        go_wp2
        go_ret
        exact ⟨_, rfl, by rw [H.out]; simp, HB5.out⟩
    · obtain rfl : k = n := by omega
      have H := Lib.hid (HN.out (fun j hj => hall j hj (by rw [← HL.out]; exact hj)))
      have HB := Lib.hid hb
      clear hb hall
      go_wp2
      go_ret
      exact ⟨_, rfl, by rw [H.out]; rfl, HB.out⟩
set_option maxHeartbeats 400000 in
theorem cnT1_any (T : List Ty) (tv : Value) (w : World) (h : TyAt w tv T) (hl : T.length ≤ 1000000) :
    Calls Tryz.prog 84 #[tv, .func (.func 85) #[] #[]] w (BB (T.any fun t => !tyL t.1) w) := by
  have HC := Lib.hid (cnT1i_any T tv w h hl)
  obtain ⟨a, c, rfl, _⟩ := h
  obtain ⟨R, hR⟩ : ∃ R, (T.any fun t => !tyL t.1) = R := ⟨_, rfl⟩
  rw [hR] at HC ⊢
  clear hR
  go_enter Tryz.func84, Tryz.ntmps84
  go_wp2_with fail
  refine HC.out.mono ?_
  rintro en w1 ⟨n, rfl, hn, hb⟩
  have H := Lib.hid hn
  clear hn
  go_wp2
  go_ret
  exact bB_mk H.out.symm hb
set_option maxHeartbeats 1600000 in
set_option maxRecDepth 100000 in
theorem cnT2i_any (T : List Ty) (tv : Value) (w : World) (h : TyAt w tv T) (hl : T.length ≤ 1000000) :
    Calls Tryz.prog 117 #[tv, .func (.func 87) #[] #[]] w (IxPost (T.any fun t => !okRule t.2.1) w) := by
  obtain ⟨a, c, rfl, hcells⟩ := h
  have HM := Lib.hid hcells
  obtain ⟨n, hn⟩ : ∃ n, T.length = n := ⟨_, rfl⟩
  have HL := Lib.hid hn
  have HY := Lib.hid (any_at (l := T) (q := fun t => !okRule t.2.1))
  have HN := Lib.hid (any_no (l := T) (q := fun t => !okRule t.2.1))
  obtain ⟨R, hR⟩ : ∃ R, (T.any fun t => !okRule t.2.1) = R := ⟨_, rfl⟩
  rw [hR] at HY HN ⊢
  rw [hn] at hl ⊢
  clear hcells hn hR
  go_enter Tryz.func117, Tryz.ntmps117
  go_wp2
  go_loopw [8] (fun v wr => ∃ k : Nat, k ≤ n ∧ v = .int .i64 (k : Nat) ∧ Below w.heap.size w wr ∧ ∀ j (hj : j < T.length), j < k → (!okRule T[j].2.1) = false) (fun v _ => n - (intOf v).toNat)
  case atStart => exact ⟨0, by omega, rfl, Below.refl _ _, fun j _ h => by omega⟩
  case round =>
    obtain ⟨k, hk, rfl, hb, hall⟩ := hrel
    have hsr := hb.size
    by_cases hlt : k < n
    · have hkl : (k : Int) < (n : Int) := by omega
      have hkm : k < T.length := by rw [HL.out]; exact hlt
      obtain ⟨g, o, rfl, hg, e0w, e1w, e2w⟩ := HM.out k hkm
      have e0 := (hb.cell (p := ⟨g, _, none⟩) hg).trans e0w
      have e1 := (hb.cell (p := ⟨g, _, none⟩) hg).trans e1w
      have e2 := (hb.cell (p := ⟨g, _, none⟩) hg).trans e2w
      obtain ⟨bq, hbq⟩ : ∃ b, (!okRule T[k].2.1) = b := ⟨_, rfl⟩
      have HYk := Lib.hid (fun hx => HY.out k hkm (by rw [hbq]; exact hx))
      have HA := Lib.hid (fun (hx : bq = false) j (hj : j < T.length) (hjk : j < k + 1) => (show (!okRule T[j].2.1) = false by
        by_cases hjj : j = k
        · subst hjj; rw [hbq]; exact hx
        · exact hall j hj (by omega)))
      obtain ⟨nm, hnm⟩ : ∃ x, T[k].1 = x := ⟨_, rfl⟩
      obtain ⟨rl, hrl⟩ : ∃ x, T[k].2.1 = x := ⟨_, rfl⟩
      obtain ⟨sg, hsg⟩ : ∃ x, T[k].2.2 = x := ⟨_, rfl⟩
      rw [hnm] at e0
      rw [hrl] at e1
      rw [hsg] at e2
      have HF := Lib.hid (fun w => show Calls Tryz.prog 87 #[.agg #[.string ⟨nm.toArray⟩, .int .i64 rl, .bool sg]] w (BB bq w) by have := snp2_any ⟨(T[k].1).toArray⟩ (T[k].2.1) (T[k].2.2) w; rw [← hnm, ← hrl, ← hsg, ← hbq]; exact this)
      have HB := Lib.hid hb
      clear hb hall e0w e1w e2w hbq hnm hrl hsg
      go_wp2_with fail
      refine (HF.out _).mono ?_
      rintro en w5 ⟨rfl, hb5⟩
      have HB5 := Lib.hid (HB.out.trans (hb5.mono hsr))
      clear hb5 e0 e1 e2
      cases bq
      · have H := Lib.hid (HA.out rfl)
        go_wp2
        exact ⟨⟨k + 1, by omega, by go_num, HB5.out, H.out⟩, by simp [intOf]; omega⟩
      · have H := Lib.hid (HYk.out rfl)
        go_wp2
        go_ret
        exact ⟨_, rfl, by rw [H.out]; simp, HB5.out⟩
    · obtain rfl : k = n := by omega
      have H := Lib.hid (HN.out (fun j hj => hall j hj (by rw [← HL.out]; exact hj)))
      have HB := Lib.hid hb
      clear hb hall
      go_wp2
      go_ret
      exact ⟨_, rfl, by rw [H.out]; rfl, HB.out⟩
set_option maxHeartbeats 400000 in
theorem cnT2_any (T : List Ty) (tv : Value) (w : World) (h : TyAt w tv T) (hl : T.length ≤ 1000000) :
    Calls Tryz.prog 84 #[tv, .func (.func 87) #[] #[]] w (BB (T.any fun t => !okRule t.2.1) w) := by
  have HC := Lib.hid (cnT2i_any T tv w h hl)
  obtain ⟨a, c, rfl, _⟩ := h
  obtain ⟨R, hR⟩ : ∃ R, (T.any fun t => !okRule t.2.1) = R := ⟨_, rfl⟩
  rw [hR] at HC ⊢
  clear hR
  go_enter Tryz.func84, Tryz.ntmps84
  go_wp2_with fail
  refine HC.out.mono ?_
  rintro en w1 ⟨n, rfl, hn, hb⟩
  have H := Lib.hid hn
  clear hn
  go_wp2
  go_ret
  exact bB_mk H.out.symm hb
set_option maxHeartbeats 1600000 in
set_option maxRecDepth 100000 in
theorem cnC1i_any (T : List Cl) (tv : Value) (w : World) (h : ClAt w tv T) (hl : T.length ≤ 1000000) :
    Calls Tryz.prog 119 #[tv, .func (.func 90) #[] #[]] w (IxPost (T.any fun t => !tyL t.1) w) := by
  obtain ⟨a, c, rfl, hcells⟩ := h
  have HM := Lib.hid hcells
  obtain ⟨n, hn⟩ : ∃ n, T.length = n := ⟨_, rfl⟩
  have HL := Lib.hid hn
  have HY := Lib.hid (any_at (l := T) (q := fun t => !tyL t.1))
  have HN := Lib.hid (any_no (l := T) (q := fun t => !tyL t.1))
  obtain ⟨R, hR⟩ : ∃ R, (T.any fun t => !tyL t.1) = R := ⟨_, rfl⟩
  rw [hR] at HY HN ⊢
  rw [hn] at hl ⊢
  clear hcells hn hR
  go_enter Tryz.func119, Tryz.ntmps119
  go_wp2
  go_loopw [8] (fun v wr => ∃ k : Nat, k ≤ n ∧ v = .int .i64 (k : Nat) ∧ Below w.heap.size w wr ∧ ∀ j (hj : j < T.length), j < k → (!tyL T[j].1) = false) (fun v _ => n - (intOf v).toNat)
  case atStart => exact ⟨0, by omega, rfl, Below.refl _ _, fun j _ h => by omega⟩
  case round =>
    obtain ⟨k, hk, rfl, hb, hall⟩ := hrel
    have hsr := hb.size
    by_cases hlt : k < n
    · have hkl : (k : Int) < (n : Int) := by omega
      have hkm : k < T.length := by rw [HL.out]; exact hlt
      obtain ⟨g, o, mu, ma, rfl, hg, e0w, e1w, e2w, _, _, h7, h8⟩ := HM.out k hkm
      obtain ⟨a1, n1, c1, rfl⟩ := slOk_form h7
      obtain ⟨a2, n2, c2, rfl⟩ := slOk_form h8
      have e0 := (hb.cell (p := ⟨g, _, none⟩) hg).trans e0w
      have e1 := (hb.cell (p := ⟨g, _, none⟩) hg).trans e1w
      have e2 := (hb.cell (p := ⟨g, _, none⟩) hg).trans e2w
      obtain ⟨bq, hbq⟩ : ∃ b, (!tyL T[k].1) = b := ⟨_, rfl⟩
      have HYk := Lib.hid (fun hx => HY.out k hkm (by rw [hbq]; exact hx))
      have HA := Lib.hid (fun (hx : bq = false) j (hj : j < T.length) (hjk : j < k + 1) => (show (!tyL T[j].1) = false by
        by_cases hjj : j = k
        · subst hjj; rw [hbq]; exact hx
        · exact hall j hj (by omega)))
      obtain ⟨nm, hnm⟩ : ∃ x, T[k].1 = x := ⟨_, rfl⟩
      rw [hnm] at e0
      have HF := Lib.hid (fun w => show Calls Tryz.prog 90 #[.agg #[.string ⟨nm.toArray⟩, .slice a1 n1 c1, .slice a2 n2 c2]] w (BB bq w) by have := snp3_any ⟨(T[k].1).toArray⟩ a1 a2 n1 c1 n2 c2 w; rw [← hnm, ← hbq]; exact this)
      have HB := Lib.hid hb
      clear hb hall e0w e1w e2w hbq hnm h7 h8
      go_wp2_with fail
      refine (HF.out _).mono ?_
      rintro en w5 ⟨rfl, hb5⟩
      have HB5 := Lib.hid (HB.out.trans (hb5.mono hsr))
      clear hb5 e0 e1 e2
      cases bq
      · have H := Lib.hid (HA.out rfl)
        go_wp2
        exact ⟨⟨k + 1, by omega, by go_num, HB5.out, H.out⟩, by simp [intOf]; omega⟩
      · have H := Lib.hid (HYk.out rfl)
        go_wp2
        go_ret
        exact ⟨_, rfl, by rw [H.out]; simp, HB5.out⟩
    · obtain rfl : k = n := by omega
      have H := Lib.hid (HN.out (fun j hj => hall j hj (by rw [← HL.out]; exact hj)))
      have HB := Lib.hid hb
      clear hb hall
      go_wp2
      go_ret
      exact ⟨_, rfl, by rw [H.out]; rfl, HB.out⟩
set_option maxHeartbeats 400000 in
theorem cnC1_any (T : List Cl) (tv : Value) (w : World) (h : ClAt w tv T) (hl : T.length ≤ 1000000) :
    Calls Tryz.prog 89 #[tv, .func (.func 90) #[] #[]] w (BB (T.any fun t => !tyL t.1) w) := by
  have HC := Lib.hid (cnC1i_any T tv w h hl)
  obtain ⟨a, c, rfl, _⟩ := h
  obtain ⟨R, hR⟩ : ∃ R, (T.any fun t => !tyL t.1) = R := ⟨_, rfl⟩
  rw [hR] at HC ⊢
  clear hR
  go_enter Tryz.func89, Tryz.ntmps89
  go_wp2_with fail
  refine HC.out.mono ?_
  rintro en w1 ⟨n, rfl, hn, hb⟩
  have H := Lib.hid hn
  clear hn
  go_wp2
  go_ret
  exact bB_mk H.out.symm hb
end Go.Proofs.YtcfckgpjdaadeaaGreatDoor
namespace Go.Proofs.MemK
open Go Go.RowKit Go.Proofs.BerK
/-- 'append(out, x)' of one element in a region that draws its order, its block just laid; where the new row lies. -/
theorem step_pushc {P : Program} {ops : Array Oper} {o : Oper} {a : Act} {w1 : World} {K : Act → World → Prop} {Q : Exit → Act → World → Prop} {E : Prop}
    (hgd : o.guard = none) (s x : Operand) (t e : TypeId) (ho : o.op = Op.call { callee := Callee.builtin Builtin.append, args := #[s, x], argTypes := #[t, t] })
    (base size bytes : Nat) (z : Value) (h5 : (P.info? e).map (fun i => (i.zero, i.size, i.bytes)) = some (some z, size, bytes)) (ht : P.underlying t = some (.slice e)) (hzs : z.cells.size = size) (hsz : 0 < size)
    (w : World) (us : List Value) (hw1 : w1 = w.alloc (.cells us.toArray e)) (hul : us.length = 1 * size) (hu : ∀ u ∈ us, u.oneCell' = true)
    (v : Value) (n : Nat) (xs : List Value) (hs : a.eval s = v) (g : Nat) (hx : a.eval x = .slice (some ⟨g, 0, none⟩) 1 1) (hg : g = w.heap.size) (hown : w.ownsRow base e size v n xs)
    (h63 : n + 1 ≤ maxLen) (hbytes : (n + 1) * bytes ≤ 140737488355328) (hbase : base ≤ w.heap.size)
    (h : ∀ v' w', w'.ownsRow base e size v' (n + 1) (xs ++ us) → Chg (fun k => some k = v.ownBlock) w w' → (v'.ownBlock = v.ownBlock ∨ ∃ k, v'.ownBlock = some k ∧ w.heap.size ≤ k) → K (a.put o.dst v') w') :
    if Region.wanted o (yielded ops a.tmps) = true then Oper.wp P o a w1 K Q else E := by
  have hw : Region.wanted o (yielded ops a.tmps) = true := by simp [Region.wanted, hgd]
  rw [if_pos hw]
  subst hg hw1
  obtain ⟨i, hi, hz0, hz1, hz2⟩ := info_parts h5
  obtain ⟨v', w', hr, h2, h3, _, h4⟩ := run_append_own_at (P := P) (w.alloc (.cells us.toArray e)) base t o.type e i z size bytes ht hi hz0 hz1 hz2 hzs hsz v n xs (hown.alloc _) ⟨w.heap.size, 0, none⟩ 1 1 us hul (cell_new w us e) hu h63 hbytes (by simp; omega)
  unfold Oper.wp execOp
  simp only [ho, resolve, invoke, builtin, Sem.run_bind, Sem.run_pure, Result.andThen_ok, List.map_toArray, List.map_cons, List.map_nil, hs, hx, hr]
  refine h v' w' h2 (((Chg.refl _ w).alloc _).trans (Chg.ofGrown h3) (fun _ _ h => h)) ?_
  rcases h4 with h4 | h4
  · exact .inl h4
  · exact .inr ⟨_, h4, by simp⟩
end Go.Proofs.MemK
namespace Go.Proofs.YtcfckgpjdaadeaaGreatDoor
set_option linter.unusedSimpArgs false
set_option linter.unusedVariables false
open Go Go.RowKit Go.Proofs.BerK Go.Proofs.MemK Go.Proofs.UtfK

theorem Tryz.sninfo35 : (Tryz.prog.info? 35).map (fun i => (i.zero, i.size, i.bytes)) = some (some (.agg #[.string ByteArray.empty, .int .i64 0, .bool false]), 3, 32) := by kernel_rfl
theorem Tryz.sninfo40 : (Tryz.prog.info? 40).map (fun i => (i.zero, i.size, i.bytes)) = some (some (.agg #[.string ByteArray.empty, .slice none 0 0, .slice none 0 0]), 3, 64) := by kernel_rfl
theorem Tryz.sninfo9 : (Tryz.prog.info? 9).map (fun i => (i.zero, i.size, i.bytes)) = some (some (.string ByteArray.empty), 1, 16) := by kernel_rfl
/-- Types as cells. -/
def tyc (t : Ty) : List Value := [.string ⟨t.1.toArray⟩, .int .i64 t.2.1, .bool t.2.2]
def tycs (T : List Ty) : List Value := T.flatMap tyc
theorem tycs_append (a b : List Ty) : tycs (a ++ b) = tycs a ++ tycs b := by simp [tycs]
theorem tycs_len (T : List Ty) : (tycs T).length = T.length * 3 := by
  induction T with
  | nil => rfl
  | cons t T ih => rw [tycs, List.flatMap_cons, List.length_append]; show 3 + (tycs T).length = _; rw [ih, List.length_cons]; omega
theorem tycs_at : ∀ (T : List Ty) (i : Nat) (h : i < T.length), (tycs T)[i * 3]? = some (.string ⟨T[i].1.toArray⟩) ∧ (tycs T)[i * 3 + 1]? = some (.int .i64 T[i].2.1) ∧ (tycs T)[i * 3 + 2]? = some (.bool T[i].2.2) := by
  intro T
  induction T with
  | nil => intro i h; simp at h
  | cons t T ih =>
    intro i h
    have e : tycs (t :: T) = .string ⟨t.1.toArray⟩ :: .int .i64 t.2.1 :: .bool t.2.2 :: tycs T := rfl
    cases i with
    | zero => rw [e]; exact ⟨rfl, rfl, rfl⟩
    | succ i =>
      have := ih i (by simpa using h)
      rw [e, show (i + 1) * 3 = i * 3 + 1 + 1 + 1 by omega]
      simpa using this
theorem tyAt_owns {w : World} {B : Nat} {v : Value} {T : List Ty} (h : w.ownsRow B 35 3 v T.length (tycs T)) : TyAt w v T := by
  rcases h.2 with ⟨rfl, h0⟩ | ⟨g, cap, cur, rfl, _, hg, _⟩
  · exact ⟨none, 0, by rw [h0], fun i hi => by omega⟩
  · refine ⟨_, cap, rfl, fun i hi => ⟨g, 0, rfl, (Array.getElem?_eq_some_iff.1 hg).1, ?_⟩⟩
    obtain ⟨h1, h2, h3⟩ := tycs_at T i hi
    rw [Nat.zero_add]
    exact ⟨(h.cellAt _ (by omega)).trans h1, (h.cellAt _ (by omega)).trans h2, (h.cellAt _ (by omega)).trans h3⟩
/-- The error of a table of types. -/
def scFT (T : List Ty) : Nat := if nmsL (T.map Prod.fst) ≠ 0 then 13 else if (T.all fun t => okRule t.2.1) = false then 1 else if twcL (T.map Prod.fst) = true then 9 else 0
theorem nms_any {α : Type} (T : List (List UInt8 × α)) : (T.any fun t => !tyL t.1) = decide (nmsL (T.map Prod.fst) ≠ 0) := by
  unfold nmsL
  by_cases h : (T.map Prod.fst).all tyL = true
  · rw [if_pos h]
    rw [List.all_map, List.all_eq_true] at h
    simp only [ne_eq, not_true_eq_false, decide_false]
    rw [List.any_eq_false]
    intro x hx
    have := h x hx
    simpa using this
  · rw [if_neg h]
    simp only [ne_eq, Nat.reduceEqDiff, not_false_eq_true, decide_true]
    rw [List.any_eq_true]
    rw [List.all_map] at h
    obtain ⟨x, hx, hq⟩ := List.all_eq_false.1 ((Bool.not_eq_true _).mp h)
    exact ⟨x, hx, by simpa using hq⟩
theorem rule_any (T : List Ty) : (T.any fun t => !okRule t.2.1) = !(T.all fun t => okRule t.2.1) := by
  rw [List.not_all_eq_any_not]
theorem twc_nodup {α : Type} (T : List (List UInt8 × α)) : twcL (T.map Prod.fst) = !decide ((T.map (fun t => lowL t.1)).Nodup) := by
  unfold twcL; rw [List.map_map]; rfl
theorem lowTy_names (T : List Ty) : (T.map lowTy).map (·.1) = T.map (fun t => lowL t.1) := by rw [List.map_map]; rfl
theorem nodup_snoc {N : List (List UInt8)} {s : List UInt8} (h : N.Nodup) (hs : ixL N s = none) : (N ++ [s]).Nodup := by
  rw [List.nodup_append]
  refine ⟨h, by simp, fun a ha b hb e => ?_⟩
  rw [List.mem_singleton] at hb
  subst hb e
  exact ix_none hs ha
theorem nodup_take_not {N : List (List UInt8)} {k : Nat} {s : List UInt8} (hk : k < N.length) (hs : N[k] = s) {i : Nat} (hi : ixL (N.take k) s = some i) : ¬ N.Nodup := by
  intro h
  obtain ⟨hl, he⟩ := ix_some hi
  have hik : i < k := by have := hl; simp at this; omega
  have := (List.pairwise_iff_getElem.1 h) i k (by omega) hk hik
  rw [List.getElem_take] at he
  exact this (he.trans hs.symm)
/-- What a table of types leaves. -/
def FillT (T : List Ty) (g : Nat) (w : World) (en : Ending) (w' : World) : Prop :=
  en = .returned (.int .i64 (scFT T : Nat)) ∧ Chg (fun k => k = g) w w' ∧ (scFT T = 0 → ∃ mv a n c, w'.heap[g]? = some (.cells #[mv, .slice a n c, .map none, .slice none 0 0] 77 (0, 0)) ∧ NmAt w' mv ((T.map lowTy).map (·.1)) ∧ TyAt w' (.slice a n c) (T.map lowTy) ∧ ∀ j o, a = some ⟨j, o, none⟩ → w.heap.size ≤ j)
theorem row_ne_map {w : World} {B b : Nat} {e : TypeId} {size : Nat} {v : Value} {n : Nat} {xs : List Value} {N : List (List UInt8)} (h : w.ownsRow B e size v n xs) (hm : NmAt w (.map (some b)) N) : ∀ j, v.ownBlock = some j → j ≠ b := by
  intro j hj
  rcases h.2 with ⟨rfl, _⟩ | ⟨g, cap, cur, rfl, _, hg, _⟩
  · cases hj
  · injection hj with hj
    have hj : g = j := hj
    subst hj
    exact fun e => nmAt_ne hm hg e.symm
theorem fillT_mk {T : List Ty} {g : Nat} {w w' : World} {n : Nat} (h : scFT T = n) (hn : n ≠ 0) (hc : Chg (fun k => k = g) w w') : FillT T g w (.returned (.int .i64 (n : Nat))) w' := by
  subst h; exact ⟨rfl, hc, fun h => absurd h hn⟩
set_option maxHeartbeats 6400000 in
set_option maxRecDepth 100000 in
theorem fillT_any (T : List Ty) (tv : Value) (g : Nat) (w0 w : World) (h : TyAt w0 tv T) (hb0 : Below w0.heap.size w0 w) (hgl : w0.heap.size ≤ g) (hl : T.length ≤ 1024) (hbt : ∀ t ∈ T, t.1.length ≤ 140737488355328)
    (hg : w.heap[g]? = some (.cells #[.map none, .slice none 0 0, .map none, .slice none 0 0] 77 (0, 0))) :
    Calls Tryz.prog 55 #[.pointer (some ⟨g, 0, none⟩), tv] w (FillT T g w) := by
  have hA := tyAt_below h hb0
  have HC1 := Lib.hid (cnT1_any T tv w hA (by omega))
  have HC2 := Lib.hid (fun w1 (hb : Below w.heap.size w w1) => cnT2_any T tv w1 (tyAt_below hA hb) (by omega))
  rw [nms_any] at HC1
  rw [rule_any] at HC2
  clear hA
  obtain ⟨a, c, rfl, hcells⟩ := h
  have HM := Lib.hid hcells
  have HB0 := Lib.hid hb0
  have HBt := Lib.hid hbt
  have HG := Lib.hid hg
  have hgs := obj_lt hg
  have hsw := hb0.size
  obtain ⟨n, hn⟩ : ∃ n, T.length = n := ⟨_, rfl⟩
  have HL := Lib.hid hn
  obtain ⟨F, hF⟩ : ∃ F, scFT T = F := ⟨_, rfl⟩
  have hF' := hF
  unfold scFT at hF'
  by_cases h1 : nmsL (T.map Prod.fst) ≠ 0
  · rw [if_pos h1] at hF'
    rw [decide_eq_true h1] at HC1
    have HF := Lib.hid (hF.trans hF'.symm)
    clear hcells hb0 hbt hg hn hF hF' h1
    go_enter Tryz.func55, Tryz.ntmps55
    go_wp2_with fail
    refine HC1.out.mono ?_
    rintro en w1 ⟨rfl, hb⟩
    have HB := Lib.hid hb
    clear hb
    go_wp2
    go_ret
    exact fillT_mk HF.out (by decide) (Chg.ofBelow HB.out)
  rw [if_neg h1] at hF'
  rw [decide_eq_false h1] at HC1
  by_cases h2 : (T.all fun t => okRule t.2.1) = false
  · rw [if_pos h2] at hF'
    rw [h2] at HC2
    have HF := Lib.hid (hF.trans hF'.symm)
    clear hcells hb0 hbt hg hn hF hF' h1 h2
    go_enter Tryz.func55, Tryz.ntmps55
    go_wp2_with fail
    refine HC1.out.mono ?_
    rintro en w1 ⟨rfl, hb⟩
    have HB := Lib.hid hb
    clear hb
    go_wp2_with fail
    refine (HC2.out _ HB.out).mono ?_
    rintro en w2 ⟨rfl, hb⟩
    have HB2 := Lib.hid (HB.out.trans (hb.mono HB.out.size))
    clear hb
    go_wp2
    go_ret
    exact fillT_mk HF.out (by decide) (Chg.ofBelow HB2.out)
  rw [if_neg h2] at hF'
  rw [(Bool.not_eq_false _).mp h2] at HC2
  rw [twc_nodup] at hF'
  obtain ⟨TL, hTL⟩ : ∃ TL, T.map lowTy = TL := ⟨_, rfl⟩
  have hTLl : TL.length = n := by rw [← hTL]; simpa using hn
  have hNM : T.map (fun t => lowL t.1) = TL.map (·.1) := by rw [← hTL, lowTy_names]
  rw [hNM] at hF'
  have HD := Lib.hid (show ¬ (TL.map (·.1)).Nodup → F = 9 by intro h; rw [← hF', decide_eq_false h]; rfl)
  have HO := Lib.hid (show (TL.map (·.1)).Nodup → F = 0 by intro h; rw [← hF', decide_eq_true h]; rfl)
  have HFF := Lib.hid hF
  have HTL := Lib.hid hTL
  have HTLl := Lib.hid hTLl
  rw [hn] at hl HC1 HC2 ⊢
  clear hcells hb0 hbt hg hn hF hF' h1 h2 hTL hTLl hNM
  go_enter Tryz.func55, Tryz.ntmps55
  go_wp2_with fail
  refine HC1.out.mono ?_
  rintro en w1 ⟨rfl, hb⟩
  have HB := Lib.hid hb
  clear hb
  go_wp2_with fail
  refine (HC2.out _ HB.out).mono ?_
  rintro en w2 ⟨rfl, hb⟩
  have HB2 := Lib.hid (HB.out.trans (hb.mono HB.out.size))
  clear hb
  have hs2 := HB2.out.size
  go_wp2
  go_loopw [13] (fun v wr => ∃ (k : Nat) (mv rv : Value), k ≤ n ∧ v = .int .i64 (k : Nat) ∧ wr.heap[g]? = some (.cells #[mv, rv, .map none, .slice none 0 0] 77 (0, 0)) ∧ NmAt wr mv ((TL.take k).map (·.1)) ∧ wr.ownsRow w.heap.size 35 3 rv k (tycs (TL.take k)) ∧
      (∀ b, mv = .map (some b) → w.heap.size ≤ b) ∧ ((TL.take k).map (·.1)).Nodup ∧ Chg (fun k => k = g) w wr) (fun v _ => n - (intOf v).toNat)
  case atStart => exact ⟨0, .map none, .slice none 0 0, by omega, rfl, obj_below HG.out HB2.out hgs, nmAt_nil _, ⟨rfl, .inl ⟨rfl, rfl⟩⟩, fun b h => (by cases h), by simp, Chg.ofBelow HB2.out⟩
  case round =>
    obtain ⟨k, mv, rv, hk, rfl, hgr, hnm, hrow, hmb, hnd, hch⟩ := hrel
    have hsr := hch.size
    by_cases hlt : k < n
    · have hkl : (k : Int) < (n : Int) := by omega
      have hkm : k < T.length := by rw [HL.out]; exact hlt
      have hb0r : Below w0.heap.size w0 wr := HB0.out.trans (hch.toBelow hsw (fun j _ h => by rw [h]; exact hgl))
      obtain ⟨g1, o1, rfl, hg1, e0w, e1w, e2w⟩ := HM.out k hkm
      have e0 := (hb0r.cell (p := ⟨g1, _, none⟩) hg1).trans e0w
      have e1 := (hb0r.cell (p := ⟨g1, _, none⟩) hg1).trans e1w
      have e2 := (hb0r.cell (p := ⟨g1, _, none⟩) hg1).trans e2w
      have hbd := HBt.out _ (List.getElem_mem hkm)
      have hkL : k < TL.length := by rw [HTLl.out]; exact hlt
      have hTk : TL[k] = (lowL T[k].1, T[k].2) := by
        have := HTL.out
        subst this
        simp [lowTy]
      obtain ⟨nm, hnmk⟩ : ∃ x, T[k].1 = x := ⟨_, rfl⟩
      obtain ⟨rl, hrl⟩ : ∃ x, T[k].2.1 = x := ⟨_, rfl⟩
      obtain ⟨sg, hsg⟩ : ∃ x, T[k].2.2 = x := ⟨_, rfl⟩
      rw [hnmk] at e0 hbd hTk
      rw [hrl] at e1
      rw [hsg] at e2
      have HLo := Lib.hid (fun w => show Calls Tryz.prog 38 #[.string ⟨nm.toArray⟩] w (StrPost (lowL nm) w) from lower_any ⟨nm.toArray⟩ w)
      have hLl : (lowL nm).length ≤ 140737488355328 := by simpa [lowL] using hbd
      obtain ⟨LX, hLX⟩ : ∃ x, lowL nm = x := ⟨_, rfl⟩
      rw [hLX] at HLo hTk hLl
      have hTk' : TL[k] = (LX, rl, sg) := by rw [hTk, ← hrl, ← hsg]
      obtain ⟨ra, rc, rfl⟩ := ownsRow_slice hrow
      have hTs : TL.take (k + 1) = TL.take k ++ [(LX, rl, sg)] := by rw [List.take_succ_eq_append_getElem hkL, hTk']
      have HT := Lib.hid (And.intro hTs (And.intro hTk' hkL))
      have HI := Lib.hid (And.intro hgr (And.intro hnm (And.intro hrow (And.intro hmb (And.intro hnd (And.intro hch hb0r))))))
      have hgrs := obj_lt hgr
      have HLL := Lib.hid hLl
      clear hgr hnm hrow hmb hnd hch hb0r e0w e1w e2w hnmk hrl hsg hLX hbd hTk hTk' hTs hLl
      go_wp2_with fail
      refine (HLo.out _).mono ?_
      rintro en w5 ⟨rfl, hb5⟩
      obtain ⟨y0, hb5r⟩ := box3s hb5
      have hs5 := hb5r.size
      have hs5' : wr.heap.size < w5.heap.size := obj_lt y0
      obtain ⟨b0, b1, b2⟩ := obj3 y0
      have f0 := obj_free y0 0
      have gg := obj_below HI.out.1 hb5r hgrs
      have HY := Lib.hid (And.intro y0 (And.intro gg (And.intro (nmAt_below HI.out.2.1 hb5r) (And.intro (ownsRow_below HI.out.2.2.1 hb5r) hb5r))))
      clear y0 hb5 hb5r gg e0 e1 e2
      go_wp2
      obtain ⟨W6, hW6⟩ : ∃ W6, w5.setCell ⟨wr.heap.size, 0, none⟩ (.string ⟨LX.toArray⟩) = W6 := ⟨_, rfl⟩
      have ch56 : Chg (fun k => k = wr.heap.size) w5 W6 := by rw [← hW6]; exact (Chg.refl (fun k => k = wr.heap.size) w5).setCell (p := ⟨wr.heap.size, 0, none⟩) (fun _ => rfl) _
      have y1 : W6.heap[wr.heap.size]? = some (.cells #[.string ⟨LX.toArray⟩, .int .i64 rl, .bool sg] 35 (0, 0)) := by rw [← hW6]; exact obj_set HY.out.1 0 _
      have gg := obj_chg HY.out.2.1 ch56 (by show ¬ g = wr.heap.size; omega)
      have nm6 := nmAt_chg HY.out.2.2.1 ch56 (fun b hb => by subst hb; exact nmAt_ne HY.out.2.2.1 HY.out.1)
      have row6 := ownsRow_chg HY.out.2.2.2.1 ch56 (fun j hj => by have := (HI.out.2.2.1.lt j hj).2; show ¬ j = wr.heap.size; omega)
      have ch6 : Chg (fun k => k = g) w W6 := (HI.out.2.2.2.2.2.1.below (HY.out.2.2.2.2.mono hsr)).trans ch56 (fun i hi h => by omega)
      have hs6 := ch56.size
      rw [hW6]
      clear hW6 b0 b1 b2 f0
      obtain ⟨c0, c1, c2⟩ := obj3 y1
      have c0' : W6.drew.cell? ⟨wr.heap.size, 0, none⟩ = _ := c0
      go_still_tail 5, (by kernel_rfl)
      change wpList _ _ _ _ _ W6.drew
      have HZ := Lib.hid (And.intro y1 (And.intro gg (And.intro nm6 (And.intro row6 (And.intro ch6 hs6)))))
      clear y1 gg nm6 row6 ch6 hs6 c0 c1 c2 c0' ch56
      go_wp2_with fail
      refine (add_any g 0 #[mv, .slice ra k rc, .map none, .slice none 0 0] 77 mv ((TL.take k).map (·.1)) LX W6.drew HZ.out.2.1 rfl (nmAt_chg (S := fun _ => False) HZ.out.2.2.1 (Chg.refl _ W6).drew (fun _ _ h => h)) (by simp; omega) HLL.out).mono ?_
      rintro en w8 ⟨hhit, hnew⟩
      have HAd := Lib.hid (And.intro hhit hnew)
      clear hhit hnew
      have HkN := Lib.hid (show ((TL.map (·.1))[k]'(by simpa using HT.out.2.2)) = LX by simp [HT.out.2.1])
      cases hq : ixL ((TL.take k).map (·.1)) LX with
      | some i =>
        obtain ⟨rfl, rfl⟩ := HAd.out.1 i hq
        have HQ := Lib.hid (HD.out (nodup_take_not (by simpa using HT.out.2.2) HkN.out (by rw [← List.map_take]; exact hq)))
        clear hq
        go_wp2
        go_ret
        exact fillT_mk (HFF.out.trans HQ.out) (by decide) HZ.out.2.2.2.2.1.drew
      | none =>
        obtain ⟨b, rfl, g8, nm8, hmb, ch8⟩ := HAd.out.2 hq
        have g8' : w8.heap[g]? = some (.cells #[.map (some b), .slice ra k rc, .map none, .slice none 0 0] 77 (0, 0)) := g8
        have hHne : ∀ j, mv = .map (some j) → j ≠ wr.heap.size := fun j hj => by have h3 := HZ.out.2.2.1; subst hj; exact nmAt_ne h3 HZ.out.1
        have y8 := obj_chg (w := W6.drew) HZ.out.1 ch8 (by rintro (h | h); · omega
                                                           · exact hHne _ h rfl)
        have row8 := ownsRow_chg (w := W6.drew) (ownsRow_heap HZ.out.2.2.2.1 rfl) ch8 (fun j hj => by
          rintro (h | h)
          · have := (HI.out.2.2.1.lt j hj).1; omega
          · have h3 := HZ.out.2.2.1
            subst h
            exact row_ne_map HZ.out.2.2.2.1 h3 j hj rfl)
        have ch9 : Chg (fun k => k = g) w w8 := HZ.out.2.2.2.2.1.drew.trans ch8 (fun i hi h => by
          rcases h with h | h
          · exact h
          · have := HI.out.2.2.2.1 _ h; omega)
        have hmb9 : w.heap.size ≤ b := by
          rcases hmb with h | ⟨_, h⟩
          · exact HI.out.2.2.2.1 _ h
          · have h4 := HZ.out.2.2.2.2.2
            have h5 : W6.heap.size ≤ b := h
            omega
        have nd9 := nodup_snoc HI.out.2.2.2.2.1 hq
        have hs8 := ch8.size
        have hs8' : W6.heap.size ≤ w8.heap.size := hs8
        have hsz8 : w.heap.size ≤ w8.heap.size := ch9.size
        have hgw : g < w8.heap.size := obj_lt g8'
        obtain ⟨d0, d1, d2⟩ := obj3 y8
        have p1 := (obj4 g8').2.1
        have H8 := Lib.hid (And.intro g8' (And.intro nm8 (And.intro row8 (And.intro ch9 (And.intro hmb9 nd9)))))
        have hyl : wr.heap.size < w8.heap.size := obj_lt y8
        have HRg := Lib.hid (show ∀ j, (Value.slice ra k rc).ownBlock = some j → j ≠ g from fun j hj => by have := (row8.lt j hj).1; omega)
        clear g8 g8' nm8 hmb ch8 hHne y8 row8 ch9 hmb9 nd9 hq hs8
        go_wp2
        go_region_law (refine step_pushc rfl (.tmp 32) (.tmp 34) 29 35 rfl w.heap.size 3 32 _ Tryz.sninfo35 Tryz.underlying29 rfl (by decide) w8.drew [_, _, _] rfl rfl (by intro u hu; simp at hu; rcases hu with rfl | rfl | rfl <;> rfl) (.slice ra k rc) k (tycs (TL.take k)) rfl _ rfl rfl (ownsRow_heap H8.out.2.2.1 rfl) (by unfold maxLen; omega) (by omega) hsz8 ?_; intro v' w' h1 h2 h3; obtain ⟨na, nc, rfl⟩ := ownsRow_slice h1; have g9 := obj_chg (w := w8.drew) H8.out.1 h2 (fun e => HRg.out _ e.symm rfl); have q1 := obj_free g9 1; have q2 := (obj4 g9).2.1)
        all_goals
          have hs9 := h2.size
          have hs9' : w8.heap.size ≤ w'.heap.size := hs9
          have g9s := obj_set g9 1 (.slice na (k + 1) nc)
          have ch10 : Chg (fun j => j = g) w (w'.setCell ⟨g, 1, none⟩ (.slice na (k + 1) nc)) := (H8.out.2.2.2.1.drew.trans h2 (fun i hi h => by have := (H8.out.2.2.1.lt i h.symm).1; omega)).setCell (p := ⟨g, 1, none⟩) (fun _ => rfl) _
          have chS : Chg (fun j => j = g) w' (w'.setCell ⟨g, 1, none⟩ (.slice na (k + 1) nc)) := (Chg.refl (fun j => j = g) w').setCell (p := ⟨g, 1, none⟩) (fun _ => rfl) _
          have nm10 := nmAt_chg (nmAt_chg (w := w8.drew) (nmAt_chg (S := fun _ => False) H8.out.2.1 (Chg.refl _ w8).drew (fun _ _ h => h)) h2 (fun j hj e => by injection hj with hj; injection hj with hj; exact row_ne_map H8.out.2.2.1 H8.out.2.1 j e.symm hj.symm)) chS (fun j hj e => by injection hj with hj; injection hj with hj; have e' : j = g := e; have := H8.out.2.2.2.2.1; omega)
          have row10 := ownsRow_chg h1 chS (fun j hj e => by have := (h1.lt j hj).1; omega)
          have HE := Lib.hid (And.intro g9s (And.intro nm10 (And.intro row10 ch10)))
          clear g9 q1 q2 h1 h2 h3 hs9 hs9' g9s ch10 chS nm10 row10
          go_wp2
          refine ⟨⟨k + 1, .map (some b), .slice na (k + 1) nc, by omega, by go_num, HE.out.1, ?_, ?_, fun j hj => by injection hj with hj; injection hj with hj; rw [← hj]; exact H8.out.2.2.2.2.1, ?_, HE.out.2.2.2⟩, by simp [intOf]; omega⟩
          · rw [HT.out.1, List.map_append]; exact HE.out.2.1
          · rw [HT.out.1, tycs_append]; exact HE.out.2.2.1
          · rw [HT.out.1, List.map_append]; exact H8.out.2.2.2.2.2
    · obtain rfl : k = n := by omega
      have hTe : TL.take k = TL := List.take_of_length_le (by rw [HTLl.out]; exact Nat.le_refl _)
      rw [hTe] at hnm hrow hnd
      obtain ⟨ra, rc, rfl⟩ := ownsRow_slice hrow
      have H := Lib.hid (And.intro hgr (And.intro hnm (And.intro hrow (And.intro (HO.out hnd) hch))))
      clear hgr hnm hrow hnd hch hTe hmb
      go_wp2
      go_ret
      have e0 : scFT T = 0 := HFF.out.trans H.out.2.2.2.1
      refine ⟨by rw [e0]; rfl, H.out.2.2.2.2, fun _ => ⟨mv, ra, k, rc, H.out.1, by rw [HTL.out]; exact H.out.2.1, ?_, fun j o e => (H.out.2.2.1.lt j (by rw [e]; rfl)).1⟩⟩
      rw [HTL.out]
      have hr := H.out.2.2.1
      have hk := HTLl.out
      subst hk
      exact tyAt_owns hr
end Go.Proofs.YtcfckgpjdaadeaaGreatDoor
