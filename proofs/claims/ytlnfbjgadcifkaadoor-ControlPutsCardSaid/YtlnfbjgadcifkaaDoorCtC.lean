/- The code's put, PutPersist and PutNotice: the bytes of a control, or the error. -/
import Derived.Test.YtlnfbjgadcifkaaDoorCtB
import Derived.Test.YtlnfbjgadcifkaaDoorTreeE
namespace Go.Proofs.YtlnfbjgadcifkaaDoor
set_option linter.unusedSimpArgs false
set_option linter.unusedVariables false
open Go Go.RowKit Go.Proofs.BerM Go.Proofs.BerK Go.Proofs.MemK Go.Proofs.NumM

theorem strAt_row {w : World} {B e g n c : Nat} {l : List (List UInt8)} (h : w.ownsRow B e 1 (.slice (some ⟨g, 0, none⟩) n c) n (sc l)) (hn : l.length = n) (h0 : 0 < n) : StrAt w (.slice (some ⟨g, 0, none⟩) n c) l := by
  subst hn
  refine .inr ⟨h0, g, 0, c, rfl, ?_, fun i hi => ?_⟩
  · rcases h.2 with ⟨hv, _⟩ | ⟨g', cap, cur, hv, _, hg, _⟩
    · cases hv
    · cases hv; exact (Array.getElem?_eq_some_iff.1 hg).1
  · rw [Nat.zero_add, h.cellAt i (by omega)]
    simp [sc, hi]
theorem flat_map_tb (L : List TB) : (L.map fun x => putL x.1 x.2).flatten = L.flatMap fun x => putL x.1 x.2 := by rw [List.flatMap_def]
theorem tbs_len : ∀ L : List TB, (∀ x ∈ L, x.2.length ≤ 4096) → (L.flatMap fun x => putL x.1 x.2).length ≤ L.length * 4101 := by
  intro L
  induction L with
  | nil => intro _; simp
  | cons x r ih =>
    intro h
    have h1 := putL_le x.1 x.2
    have h2 := h x (by simp)
    have h3 := ih (fun y hy => h y (by simp [hy]))
    simp only [List.flatMap_cons, List.length_append, List.length_cons, Nat.add_mul]
    omega

set_option maxHeartbeats 3200000 in
set_option maxRecDepth 100000 in
theorem cput_any (L : List TB) (v : Value) (w : World) (hL : ∀ x ∈ L, goodTB x ∧ x.2.length ≤ 4096) (hn : 0 < L.length) (hn3 : L.length ≤ 3) (h : RowAt w v L) :
    Calls Tryd.prog 19 #[v] w (SeqPost (L.flatMap fun x => putL x.1 x.2) w) := by
  rcases h with ⟨h0, _⟩ | ⟨_, g, c, rfl, hg, hq⟩
  · rw [h0] at hn; simp at hn
  have hlen := tbs_len L (fun x hx => (hL x hx).2)
  have HS := Lib.hid (fun w v (hv : StrAt w v (L.map fun x => putL x.1 x.2)) => seq_any (L.map fun x => putL x.1 x.2) v w hv (by rw [List.length_map]; omega) (by rw [flat_map_tb]; omega))
  rw [flat_map_tb] at HS
  have HQ := Lib.hid hq
  have HG := Lib.hid hg
  have HL := Lib.hid hL
  obtain ⟨X, hX⟩ : ∃ X, (L.flatMap fun x => putL x.1 x.2) = X := ⟨_, rfl⟩
  obtain ⟨S, hS⟩ : ∃ S, (L.map fun x => putL x.1 x.2) = S := ⟨_, rfl⟩
  have hSl : S.length = L.length := by rw [← hS, List.length_map]
  have HSat := Lib.hid (fun i (hi : i < L.length) (hs : i < S.length) => (by simp only [← hS, List.getElem_map] : S[i]'hs = putL L[i].1 L[i].2))
  rw [hX] at HS ⊢
  rw [hS] at HS
  obtain ⟨n, hln⟩ : ∃ n, L.length = n := ⟨_, rfl⟩
  have HLN := Lib.hid hln
  have HSL := Lib.hid (hSl.trans hln)
  rw [hln] at hn hn3 ⊢
  clear hq hg hL hX hS hlen hSl hln
  obtain ⟨i0, hi, hz0, hz1, hz2⟩ := info_parts Tryd.ctinfo9
  have HI := Lib.hid hi
  have HZ0 := Lib.hid hz0
  have HZ1 := Lib.hid hz1
  have HZ2 := Lib.hid hz2
  clear hi hz0 hz1 hz2
  go_enter Tryd.func19, Tryd.ntmps19
  go_wp2_with (at_make; refine wpList_make_full _ rfl _ _ 64 rfl w.heap.size 9 i0 (.string ByteArray.empty) 1 Tryd.underlying64 HI.out HZ0.out HZ1.out _ _ _ _ n rfl rfl ?e1 ?e2 ?b0 ?b1 ?b2 ?_)
  case e1 => rfl
  case e2 => rfl
  case b0 => rw [HZ2.out]; omega
  case b1 => unfold maxLen; omega
  case b2 => omega
  intro w3 hown3 hg3
  have hb3 : Below w.heap.size w w3 := (Below.refl _ _).grown hg3 (Nat.le_refl _) (fun k hk => by cases hk)
  have e0 := preS_0 S
  rw [HSL.out] at e0
  rw [← e0] at hown3
  clear e0 hg3
  go_wp2
  go_loopw [14] (fun v14 wr => ∃ i : Nat, v14 = .int .i64 i ∧ i ≤ n ∧ wr.ownsRow w.heap.size 9 1 (.slice (some ⟨w.heap.size, 0, none⟩) n n) n (sc (preS S i)) ∧ Below w.heap.size w wr) (fun v14 _ => n - (intOf v14).toNat)
  case atStart => exact ⟨0, rfl, Nat.zero_le _, hown3, hb3⟩
  case round =>
    obtain ⟨i, rfl, hi, hown, hbel⟩ := hrel
    clear hown3 hb3
    by_cases hlt : i < n
    · have hiL : i < L.length := by rw [HLN.out]; exact hlt
      have hiS : i < S.length := by rw [HSL.out]; exact hlt
      obtain ⟨hp0, hp1⟩ := HQ.out i hiL
      have hc0 := (hbel.cell (p := ⟨g, i * 2, none⟩) HG.out).trans hp0
      have hc1 := (hbel.cell (p := ⟨g, i * 2 + 1, none⟩) HG.out).trans hp1
      have hset := preS_set S i hiS
      have hat := preS_at S i hiS
      have hgd := HL.out L[i] (List.getElem_mem hiL)
      rw [HSat.out i hiL hiS] at hset
      obtain ⟨t', b', hx⟩ : ∃ t' b', L[i] = (t', b') := ⟨_, _, rfl⟩
      rw [hx] at hc0 hc1 hset hgd
      have HP := Lib.hid fun w => put_c (t' : Int) ⟨b'.toArray⟩ (by unfold maxLen; show b'.length ≤ _; have := hgd.2; simp only at this; omega) (putL t' b') 0 rfl (putE_ok hgd.1.1 hgd.1.2) w
      obtain ⟨M, hM⟩ : ∃ M, putL (t' : Int) b' = M := ⟨_, rfl⟩
      simp only [hM] at hset HP
      have HSet := Lib.hid hset
      have hi0 : (0 : Int) ≤ i := by omega
      have hi1 : (i : Int) < (n : Int) := by omega
      have HO := Lib.hid hown
      have HB := Lib.hid hbel
      have HAt := Lib.hid hat
      clear hp0 hp1 hset hat hx hgd hM hown hbel
      go_wp2_with fail
      refine (HP.out _).mono ?_
      rintro en w5 ⟨rfl, hb5⟩
      have HO5 := Lib.hid (ownsRow_below (HO.out.alloc _) hb5)
      have HB5 := Lib.hid ((HB.out.alloc HB.out.size _).trans (hb5.mono (by have := HB.out.size; simp; omega)))
      have hcell := (HO5.out.cellAt i (by omega)).trans HAt.out
      have hfz := HO5.out.frozenAt i
      clear hb5 hc0 hc1
      go_wp2
      go_roundw
      case rel =>
        refine ⟨i + 1, by go_num, by omega, ?_, HB5.out.setCell (p := ⟨w.heap.size, i, none⟩) (Nat.le_refl _) _⟩
        have h7 := (HO5.out.stored i (.string ⟨M.toArray⟩)).1
        rw [HSet.out] at h7
        exact h7
      case measure => simp [intOf]; omega
    · obtain rfl : i = n := by omega
      rw [← HSL.out, preS_all, HSL.out] at hown
      have HA := Lib.hid (HS.out wr _ (strAt_row hown HSL.out hn))
      have HB := Lib.hid hbel
      clear hown hbel
      go_wp2_with fail
      refine HA.out.mono ?_
      rintro en w5 ⟨rfl, hb5⟩
      have hbf := HB.out.trans (hb5.mono HB.out.size)
      clear hb5
      go_wp2
      go_ret2
      exact ⟨rfl, hbf⟩

/-- A row of parts as a literal lays it, put. -/
theorem cput_new (L : List TB) (hL : ∀ x ∈ L, goodTB x ∧ x.2.length ≤ 4096) (hn : 0 < L.length) (hn3 : L.length ≤ 3) (cs : Array Value) (hcs : cs = (tc L).toArray) (n : Nat) (hln : n = L.length) (X : List UInt8) (hX : (L.flatMap fun x => putL x.1 x.2) = X) (w : World) (g : Nat) (hg : g = w.heap.size) :
    Calls Tryd.prog 19 #[.slice (some ⟨g, 0, none⟩) n n] (w.alloc (.cells cs 54)) (SeqPost X w) := by
  subst hcs hln hX hg
  have hbx := heap_alloc_new w (.cells (tc L).toArray 54)
  refine (cput_any L _ _ hL hn hn3 (.inr ⟨hn, w.heap.size, L.length, rfl, by simp, fun i hi => ?_⟩)).mono ?_
  · have h2 := tc_at L i hi
    rw [Nat.mul_comm 2 i] at h2
    exact ⟨obj_cell hbx (i * 2) _ (by simpa using h2.1), obj_cell hbx (i * 2 + 1) _ (by simpa using h2.2)⟩
  · rintro en w' ⟨rfl, hb⟩
    exact ⟨rfl, ((Below.refl _ w).alloc (Nat.le_refl _) _).trans (hb.mono (by simp))⟩
theorem pe_good (t : Int) (c r : Bool) : ∀ x ∈ ([(2, npL t), (1, bB c), (1, bB r)] : List TB), goodTB x ∧ x.2.length ≤ 4096 := by
  intro x hx
  have h4 := npL_le t
  simp only [List.mem_cons, List.not_mem_nil, or_false] at hx
  rcases hx with rfl | rfl | rfl
  · exact ⟨⟨(by show tagB (2 : Int) = true; decide), by show (npL t).length ≤ _; omega⟩, by show (npL t).length ≤ _; omega⟩
  · exact ⟨⟨(by show tagB (1 : Int) = true; decide), by show (bB c).length ≤ _; rw [bB_len]; omega⟩, by show (bB c).length ≤ _; rw [bB_len]; omega⟩
  · exact ⟨⟨(by show tagB (1 : Int) = true; decide), by show (bB r).length ≤ _; rw [bB_len]; omega⟩, by show (bB r).length ≤ _; rw [bB_len]; omega⟩
/-- A text and an error are handed back. -/
def SePost (p : List UInt8 × Nat) (w : World) (en : Ending) (w' : World) : Prop := en = .returned (.tuple #[.string ⟨p.1.toArray⟩, .int .i64 (p.2 : Nat)]) ∧ Below w.heap.size w w'
set_option maxHeartbeats 3200000 in
set_option maxRecDepth 100000 in
theorem cpe_any (t : Int) (c r : Bool) (w : World) : Calls Tryd.prog 7 #[.agg #[.int .i64 t, .bool c, .bool r]] w (SePost (peP t c r) w) := by
  obtain ⟨W, hW⟩ : ∃ W, w.alloc (.cells #[.int .i64 t, .bool c, .bool r] 23) = W := ⟨_, rfl⟩
  have hb0 : Below w.heap.size w W := by rw [← hW]; exact (Below.refl _ w).alloc (Nat.le_refl _) _
  have hg : W.heap[w.heap.size]? = some (.cells #[.int .i64 t, .bool c, .bool r] 23 (0, 0)) := by rw [← hW]; exact heap_alloc_new w _
  have p0 := obj_cell hg 0 _ rfl
  have p1 := obj_cell hg 1 _ rfl
  have p2 := obj_cell hg 2 _ rfl
  have hz : w.heap.size < W.heap.size := obj_lt hg
  have HB0 := Lib.hid hb0
  unfold peP
  by_cases ht : 1 ≤ t ∧ t ≤ 15
  · rw [if_pos ht]
    obtain ⟨ht1, ht2⟩ := ht
    have HN := Lib.hid fun w' => cnum_any 2 t w'
    have HT1 := Lib.hid fun w' => ctru_any c w'
    have HT2 := Lib.hid fun w' => ctru_any r w'
    have HP := Lib.hid fun w' => cput_new [(2, npL t), (1, bB c), (1, bB r)] (pe_good t c r) (by simp) (by simp) #[.int .i64 2, .string ⟨(npL t).toArray⟩, .int .i64 1, .string ⟨(bB c).toArray⟩, .int .i64 1, .string ⟨(bB r).toArray⟩] rfl 3 rfl _ (pe_parts t c r).symm w' _ rfl
    obtain ⟨nb, hnb⟩ : ∃ q, npL t = q := ⟨_, rfl⟩
    obtain ⟨cb, hcb⟩ : ∃ q, bB c = q := ⟨_, rfl⟩
    obtain ⟨rb, hrb⟩ : ∃ q, bB r = q := ⟨_, rfl⟩
    have e : peL t c r = putL 48 (putL 2 nb ++ (putL 1 cb ++ putL 1 rb)) := by rw [peL, hnb, hcb, hrb]
    rw [e]
    rw [hnb] at HN HP
    rw [hcb] at HT1 HP
    rw [hrb] at HT2 HP
    obtain ⟨X, hX⟩ : ∃ X, putL 2 nb ++ (putL 1 cb ++ putL 1 rb) = X := ⟨_, rfl⟩
    rw [hX] at HP ⊢
    clear e hnb hcb hrb hX hb0 hg
    go_enter Tryd.func7, Tryd.ntmps7
    go_wp2_with fail
    go_region_held3 (fun w' => w'.cell? ⟨w.heap.size, 0, none⟩ = some (.int .i64 t) ∧ w'.cell? ⟨w.heap.size, 1, none⟩ = some (.bool c) ∧ w'.cell? ⟨w.heap.size, 2, none⟩ = some (.bool r)) (first | exact ⟨hp0, hp1, hp2⟩ | exact ⟨p0, p1, p2⟩ | go_keep)
      (first | (go_at_call 20; (with_reducible refine (HN.out _).mono ?_); rintro en wz ⟨rfl, hb5⟩; have hbW : Below W.heap.size W wz := (by first | exact hbW.trans (hb5.mono hbW.size) | exact (Below.refl _ W).drew.trans hb5); have hp0 := (hbW.cell (p := ⟨w.heap.size, 0, none⟩) hz).trans p0; have hp1 := (hbW.cell (p := ⟨w.heap.size, 1, none⟩) hz).trans p1; have hp2 := (hbW.cell (p := ⟨w.heap.size, 2, none⟩) hz).trans p2; clear hb5) | (go_at_call 21; (with_reducible refine (HT1.out _).mono ?_); rintro en wz ⟨rfl, hb5⟩; have hbW : Below W.heap.size W wz := (by first | exact hbW.trans (hb5.mono hbW.size) | exact (Below.refl _ W).drew.trans hb5); have hp0 := (hbW.cell (p := ⟨w.heap.size, 0, none⟩) hz).trans p0; have hp1 := (hbW.cell (p := ⟨w.heap.size, 1, none⟩) hz).trans p1; have hp2 := (hbW.cell (p := ⟨w.heap.size, 2, none⟩) hz).trans p2; clear hb5) | (go_at_call 21; (with_reducible refine (HT2.out _).mono ?_); rintro en wz ⟨rfl, hb5⟩; have hbW : Below W.heap.size W wz := (by first | exact hbW.trans (hb5.mono hbW.size) | exact (Below.refl _ W).drew.trans hb5); have hp0 := (hbW.cell (p := ⟨w.heap.size, 0, none⟩) hz).trans p0; have hp1 := (hbW.cell (p := ⟨w.heap.size, 1, none⟩) hz).trans p1; have hp2 := (hbW.cell (p := ⟨w.heap.size, 2, none⟩) hz).trans p2; clear hb5) | (go_at_call 19; (with_reducible refine (HP.out _).mono ?_); rintro en wz ⟨rfl, hb5⟩; have hbW : Below W.heap.size W wz := (by first | exact hbW.trans (hb5.mono hbW.size) | exact (Below.refl _ W).drew.trans hb5); have hp0 := (hbW.cell (p := ⟨w.heap.size, 0, none⟩) hz).trans p0; have hp1 := (hbW.cell (p := ⟨w.heap.size, 1, none⟩) hz).trans p1; have hp2 := (hbW.cell (p := ⟨w.heap.size, 2, none⟩) hz).trans p2; clear hb5))
    go_wp2
    go_ret2
    exact ⟨rfl, HB0.out.trans (hbW.mono HB0.out.size)⟩
  · rw [if_neg ht]
    have hw : t < 1 ∨ (¬ t < 1 ∧ 15 < t) := by omega
    clear ht hb0 hg
    rcases hw with q1 | ⟨q1, q2⟩
    all_goals
      go_enter Tryd.func7, Tryd.ntmps7
      go_wp2
      go_ret2
      exact ⟨rfl, HB0.out⟩
end Go.Proofs.YtlnfbjgadcifkaaDoor
