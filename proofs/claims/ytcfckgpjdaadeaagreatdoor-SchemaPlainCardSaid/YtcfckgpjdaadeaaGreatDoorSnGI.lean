/- The code's hasTypes: is there a type for all that classes ask for? The code's New: a schema of types and classes. The plain schema: its types and classes, and the code's Plain. -/
import Derived.Test.YtcfckgpjdaadeaaGreatDoorSnCD
import Derived.Test.YtcfckgpjdaadeaaGreatDoorSnAB
import Derived.Test.YtcfckgpjdaadeaaGreatDoorSnEF
namespace Go.Proofs.YtcfckgpjdaadeaaGreatDoor
set_option linter.unusedSimpArgs false
set_option linter.unusedVariables false
open Go Go.RowKit Go.Proofs.BerK Go.Proofs.MemK Go.Proofs.UtfK

/-- A schema in memory: its types and its classes. -/
def ScAt (w : World) (g : Nat) (T : List Ty) (C : List Cl) : Prop :=
  ∃ m1 a1 n1 c1 m2 a2 n2 c2, w.heap[g]? = some (.cells #[m1, .slice a1 n1 c1, m2, .slice a2 n2 c2] 77 (0, 0)) ∧ NmAt w m1 (T.map (·.1)) ∧ TyAt w (.slice a1 n1 c1) T ∧ NmAt w m2 (C.map (·.1)) ∧ ClAt w (.slice a2 n2 c2) C
theorem scAt_below {w w' : World} {g : Nat} {T : List Ty} {C : List Cl} (h : ScAt w g T C) (hb : Below w.heap.size w w') : ScAt w' g T C := by
  obtain ⟨m1, a1, n1, c1, m2, a2, n2, c2, h1, h2, h3, h4, h5⟩ := h
  exact ⟨m1, a1, n1, c1, m2, a2, n2, c2, obj_below h1 hb (obj_lt h1), nmAt_below h2 hb, tyAt_below h3 hb, nmAt_below h4 hb, clAt_below h5 hb⟩
theorem scAt_lt {w : World} {g : Nat} {T : List Ty} {C : List Cl} (h : ScAt w g T C) : g < w.heap.size := by
  obtain ⟨m1, a1, n1, c1, m2, a2, n2, c2, h1, _⟩ := h
  exact obj_lt h1
theorem plV_some (i : Nat) : plV (some i) = .tuple #[.int .i64 (i : Nat), .bool true] := rfl
theorem plV_none : plV none = .tuple #[.int .i64 0, .bool false] := rfl
set_option maxHeartbeats 400000 in
set_option maxRecDepth 100000 in
theorem snno_any (s : List UInt8) (b g : Nat) (T : List Ty) (C : List Cl) (w : World) (hb : w.cell? ⟨b, 0, none⟩ = some (.pointer (some ⟨g, 0, none⟩))) (h : ScAt w g T C) (hs : s.length ≤ 140737488355328) :
    Calls Tryz.prog 92 #[.string ⟨s.toArray⟩, .pointer (some ⟨b, 0, none⟩)] w (PureB (!inL (T.map (·.1)) s) w) := by
  obtain ⟨m1, a1, n1, c1, m2, a2, n2, c2, h1, h2, _⟩ := h
  have HP := Lib.hid (place_any g 0 m1 (T.map (·.1)) s w (obj4 h1).1 h2 hs)
  cases hq : ixL (T.map (·.1)) s with
  | none =>
    rw [hq] at HP
    have H := Lib.hid (ix_out hq)
    clear h1 h2 hq
    go_enter Tryz.func92, Tryz.ntmps92
    go_wp2_with fail
    refine HP.out.mono ?_
    rintro en w1 ⟨rfl, rfl⟩
    rw [plV_none]
    go_wp2
    go_ret
    exact pureB_mk (by rw [H.out]; rfl)
  | some i =>
    rw [hq] at HP
    have H := Lib.hid (ix_in hq)
    clear h1 h2 hq
    go_enter Tryz.func92, Tryz.ntmps92
    go_wp2_with fail
    refine HP.out.mono ?_
    rintro en w1 ⟨rfl, rfl⟩
    rw [plV_some]
    go_wp2
    go_ret
    exact pureB_mk (by rw [H.out]; rfl)
def IxP (b : Bool) (w : World) (en : Ending) (w' : World) : Prop := ∃ n : Int, en = .returned (.int .i64 n) ∧ decide (0 ≤ n) = b ∧ w = w'
set_option maxHeartbeats 1600000 in
set_option maxRecDepth 100000 in
theorem snnoi_any (l : List (List UInt8)) (v : Value) (b g : Nat) (T : List Ty) (C : List Cl) (w : World) (hl : l.length ≤ 1000000) (ht : TxR w v l) (hb : w.cell? ⟨b, 0, none⟩ = some (.pointer (some ⟨g, 0, none⟩))) (h : ScAt w g T C) (hs : ∀ s ∈ l, s.length ≤ 140737488355328) :
    Calls Tryz.prog 107 #[v, .func (.func 92) #[] #[.pointer (some ⟨b, 0, none⟩)]] w (IxP (l.any fun s => !inL (T.map (·.1)) s) w) := by
  have HC := Lib.hid (fun s (hs : s.length ≤ 140737488355328) => snno_any s b g T C w hb h hs)
  obtain ⟨N, hN⟩ : ∃ N, T.map (·.1) = N := ⟨_, rfl⟩
  rw [hN] at HC ⊢
  obtain ⟨a, c, rfl, hcells⟩ := ht
  have HM := Lib.hid hcells
  have HS := Lib.hid hs
  obtain ⟨n, hn⟩ : ∃ n, l.length = n := ⟨_, rfl⟩
  have HL := Lib.hid hn
  have HY := Lib.hid (any_at (l := l) (q := fun s => !inL N s))
  have HN := Lib.hid (any_no (l := l) (q := fun s => !inL N s))
  obtain ⟨R, hR⟩ : ∃ R, (l.any fun s => !inL N s) = R := ⟨_, rfl⟩
  rw [hR] at HY HN ⊢
  rw [hn] at hl ⊢
  clear hcells hn hR hs hb h hN
  go_enter Tryz.func107, Tryz.ntmps107
  go_wp2
  go_loop [8] (fun v => ∃ k : Nat, k ≤ n ∧ v = .int .i64 (k : Nat) ∧ ∀ j (hj : j < l.length), j < k → (!inL N l[j]) = false) (fun v => n - (intOf v).toNat)
  case atStart => exact ⟨0, by omega, rfl, fun j _ h => by omega⟩
  case round =>
    obtain ⟨k, hk, rfl, hall⟩ := hrel
    by_cases hlt : k < n
    · have hkl : (k : Int) < (n : Int) := by omega
      have hkm : k < l.length := by rw [HL.out]; exact hlt
      obtain ⟨g1, o1, rfl, hg1, e0⟩ := HM.out k hkm
      have HF := Lib.hid (HC.out _ (HS.out _ (List.getElem_mem hkm)))
      obtain ⟨bq, hbq⟩ : ∃ b, (!inL N l[k]) = b := ⟨_, rfl⟩
      have HYk := Lib.hid (fun hx => HY.out k hkm (by rw [hbq]; exact hx))
      have HA := Lib.hid (fun (hx : bq = false) j (hj : j < l.length) (hjk : j < k + 1) => (show (!inL N l[j]) = false by
        by_cases hjj : j = k
        · subst hjj; rw [hbq]; exact hx
        · exact hall j hj (by omega)))
      rw [hbq] at HF
      obtain ⟨s, hsk⟩ : ∃ x, l[k] = x := ⟨_, rfl⟩
      rw [hsk] at e0 HF
      clear hall hbq hsk
      go_wp2_with fail
      refine HF.out.mono ?_
      rintro en w5 ⟨rfl, hw⟩
      obtain rfl := hw.symm
      cases bq
      · have H := Lib.hid (HA.out rfl)
        go_wp2
        exact ⟨⟨k + 1, by omega, by go_num, H.out⟩, by simp [intOf]; omega⟩
      · have H := Lib.hid (HYk.out rfl)
        go_wp2
        go_ret
        exact ⟨_, rfl, by rw [H.out]; simp, rfl⟩
    · obtain rfl : k = n := by omega
      have H := Lib.hid (HN.out (fun j hj => hall j hj (by rw [← HL.out]; exact hj)))
      clear hall
      go_wp2
      go_ret
      exact ⟨_, rfl, by rw [H.out]; rfl, rfl⟩
set_option maxHeartbeats 400000 in
theorem snnoc_any (l : List (List UInt8)) (v : Value) (b g : Nat) (T : List Ty) (C : List Cl) (w : World) (hl : l.length ≤ 1000000) (ht : TxR w v l) (hb : w.cell? ⟨b, 0, none⟩ = some (.pointer (some ⟨g, 0, none⟩))) (h : ScAt w g T C) (hs : ∀ s ∈ l, s.length ≤ 140737488355328) :
    Calls Tryz.prog 75 #[v, .func (.func 92) #[] #[.pointer (some ⟨b, 0, none⟩)]] w (PureB (l.any fun s => !inL (T.map (·.1)) s) w) := by
  have HC := Lib.hid (snnoi_any l v b g T C w hl ht hb h hs)
  obtain ⟨R, hR⟩ : ∃ R, (l.any fun s => !inL (T.map (·.1)) s) = R := ⟨_, rfl⟩
  obtain ⟨a, c, rfl, _⟩ := ht
  rw [hR] at HC ⊢
  clear hR hb h hs
  go_enter Tryz.func75, Tryz.ntmps75
  go_wp2_with fail
  refine HC.out.mono ?_
  rintro en w1 ⟨n, rfl, hn, rfl⟩
  have H := Lib.hid hn
  clear hn
  go_wp2
  go_ret
  exact pureB_mk H.out.symm
def objL : List UInt8 := [111, 98, 106, 101, 99, 116, 99, 108, 97, 115, 115]
def misC (N : List (List UInt8)) (c : Cl) : Bool := (c.2.1.any fun s => !inL N s) || (c.2.2.any fun s => !inL N s)
def hasTyB (N : List (List UInt8)) (C : List Cl) : Bool := !(C.any (misC N)) && inL N objL
set_option maxHeartbeats 3200000 in
set_option maxRecDepth 100000 in
theorem hasTypes_any (g : Nat) (T : List Ty) (C : List Cl) (w : World) (h : ScAt w g T C) (hl : C.length ≤ 1000000) (hlm : ∀ c ∈ C, c.2.1.length ≤ 1000000 ∧ c.2.2.length ≤ 1000000) (hs : ∀ c ∈ C, (∀ s ∈ c.2.1, s.length ≤ 140737488355328) ∧ ∀ s ∈ c.2.2, s.length ≤ 140737488355328) :
    Calls Tryz.prog 57 #[.pointer (some ⟨g, 0, none⟩)] w (BB (hasTyB (T.map (·.1)) C) w) := by
  have HS := Lib.hid h
  obtain ⟨m1, a1, n1, c1, m2, a2, n2, c2, h1, h2, h3, h4, h5⟩ := id h
  obtain ⟨a, c, hv, hcells⟩ := h5
  injection hv with hv1 hv2 hv3
  subst hv1 hv2 hv3
  have HM := Lib.hid hcells
  have HLm := Lib.hid hlm
  have HLs := Lib.hid hs
  obtain ⟨n, hn⟩ : ∃ n, C.length = n := ⟨_, rfl⟩
  have HL := Lib.hid hn
  rw [hn] at hl h1
  have p3 := (obj4 h1).2.2.2
  have hgl := obj_lt h1
  obtain ⟨W0, hW0⟩ : ∃ W0, w.alloc (.cells #[.pointer (some ⟨g, 0, none⟩)] 27) = W0 := ⟨_, rfl⟩
  have hb0 : Below w.heap.size w W0 := by rw [← hW0]; exact (Below.refl _ w).alloc (Nat.le_refl _) _
  have x0 : W0.heap[w.heap.size]? = some (.cells #[.pointer (some ⟨g, 0, none⟩)] 27 (0, 0)) := by rw [← hW0]; exact heap_alloc_new w _
  have q3 : W0.cell? ⟨g, 3, none⟩ = some (.slice a2 n c2) := (hb0.cell (p := ⟨g, 3, none⟩) hgl).trans p3
  have q0 := obj_cell x0 0 _ rfl
  have HW0 := Lib.hid hW0
  have HX := Lib.hid (And.intro x0 hb0)
  have hsz0 := hb0.size
  obtain ⟨N, hN⟩ : ∃ N, T.map (·.1) = N := ⟨_, rfl⟩
  have HY := Lib.hid (any_at (l := C) (q := misC N))
  have HN := Lib.hid (any_no (l := C) (q := misC N))
  have HR := Lib.hid (show hasTyB N C = (!(C.any (misC N)) && inL N objL) from rfl)
  obtain ⟨R, hR⟩ : ∃ R, C.any (misC N) = R := ⟨_, rfl⟩
  rw [hR] at HY HN HR
  have HCn := Lib.hid (fun wr (hb : Below w.heap.size w wr) (hx : wr.cell? ⟨w.heap.size, 0, none⟩ = some (.pointer (some ⟨g, 0, none⟩))) l v (hl : l.length ≤ 1000000) (ht : TxR wr v l) (hs : ∀ s ∈ l, s.length ≤ 140737488355328) => snnoc_any l v w.heap.size g T C wr hl ht hx (scAt_below h hb) hs)
  have HCo := Lib.hid (fun wr (hb : Below w.heap.size w wr) (hx : wr.cell? ⟨w.heap.size, 0, none⟩ = some (.pointer (some ⟨g, 0, none⟩))) => snno_any objL w.heap.size g T C wr hx (scAt_below h hb) (by decide))
  rw [hN] at HCn HCo ⊢
  have hz0 : w.heap.size < W0.heap.size := obj_lt x0
  clear hcells h hlm hs h1 h2 h3 h4 hn hN hW0 x0 hb0 hR
  go_enter Tryz.func57, Tryz.ntmps57
  go_wp2
  rw [HW0.out]
  clear q0 q3 p3
  go_loopw [13] (fun v wr => ∃ k : Nat, k ≤ n ∧ v = .int .i64 (k : Nat) ∧ Below W0.heap.size W0 wr ∧ ∀ j (hj : j < C.length), j < k → misC N C[j] = false) (fun v _ => n - (intOf v).toNat)
  case atStart => exact ⟨0, by omega, rfl, Below.refl _ _, fun j _ h => by omega⟩
  case round =>
    obtain ⟨k, hk, rfl, hb, hall⟩ := hrel
    have hsr := hb.size
    have hbw : Below w.heap.size w wr := HX.out.2.trans (hb.mono hsz0)
    by_cases hlt : k < n
    · have hkl : (k : Int) < (n : Int) := by omega
      have hkm : k < C.length := by rw [HL.out]; exact hlt
      obtain ⟨g1, o1, mu, ma, rfl, hg1, e0w, e1w, e2w, tmu, tma, smu, sma⟩ := HM.out k hkm
      have e0 := (hbw.cell (p := ⟨g1, _, none⟩) hg1).trans e0w
      have e1 := (hbw.cell (p := ⟨g1, _, none⟩) hg1).trans e1w
      have e2 := (hbw.cell (p := ⟨g1, _, none⟩) hg1).trans e2w
      have hlk := HLm.out _ (List.getElem_mem hkm)
      have hsk := HLs.out _ (List.getElem_mem hkm)
      obtain ⟨bq, hbq⟩ : ∃ b, misC N C[k] = b := ⟨_, rfl⟩
      have HYk := Lib.hid (fun hx => HY.out k hkm (by rw [hbq]; exact hx))
      have HA := Lib.hid (fun (hx : bq = false) j (hj : j < C.length) (hjk : j < k + 1) => (show misC N C[j] = false by
        by_cases hjj : j = k
        · subst hjj; rw [hbq]; exact hx
        · exact hall j hj (by omega)))
      have hbq' := hbq
      unfold misC at hbq'
      obtain ⟨nm, hnm⟩ : ∃ x, C[k].1 = x := ⟨_, rfl⟩
      obtain ⟨MU, hMU⟩ : ∃ x, C[k].2.1 = x := ⟨_, rfl⟩
      obtain ⟨MA, hMA⟩ : ∃ x, C[k].2.2 = x := ⟨_, rfl⟩
      rw [hnm] at e0
      rw [hMU] at tmu hlk hsk hbq'
      rw [hMA] at tma hlk hsk hbq'
      obtain ⟨a3, n3, c3, rfl⟩ := slOk_form smu
      obtain ⟨a4, n4, c4, rfl⟩ := slOk_form sma
      obtain ⟨W1, hW1⟩ : ∃ W1, wr.alloc (.cells #[.string ⟨nm.toArray⟩, .slice a3 n3 c3, .slice a4 n4 c4] 40) = W1 := ⟨_, rfl⟩
      have hb1 : Below wr.heap.size wr W1 := by rw [← hW1]; exact (Below.refl _ wr).alloc (Nat.le_refl _) _
      have hbw1 : Below w.heap.size w W1 := hbw.trans (hb1.mono hbw.size)
      have hx1 : W1.cell? ⟨w.heap.size, 0, none⟩ = some (.pointer (some ⟨g, 0, none⟩)) := (hb1.cell (p := ⟨w.heap.size, 0, none⟩) (by show w.heap.size < _; omega)).trans ((hb.cell (p := ⟨w.heap.size, 0, none⟩) hz0).trans (obj_cell HX.out.1 0 _ rfl))
      have HU := Lib.hid (HCn.out W1 hbw1 hx1 MU _ hlk.1 (txR_below tmu hbw1) hsk.1)
      have HA2 := Lib.hid (HCn.out W1 hbw1 hx1 MA _ hlk.2 (txR_below tma hbw1) hsk.2)
      obtain ⟨bu, hbu⟩ : ∃ b, (MU.any fun s => !inL N s) = b := ⟨_, rfl⟩
      obtain ⟨ba, hba⟩ : ∃ b, (MA.any fun s => !inL N s) = b := ⟨_, rfl⟩
      rw [hbu] at HU hbq'
      rw [hba] at HA2 hbq'
      have HW1 := Lib.hid hW1
      have y1 : W1.heap[wr.heap.size]? = some (.cells #[.string ⟨nm.toArray⟩, .slice a3 n3 c3, .slice a4 n4 c4] 40 (0, 0)) := by rw [← hW1]; exact heap_alloc_new wr _
      obtain ⟨i0, i1, i2⟩ := obj3 y1
      have HB := Lib.hid (And.intro (hb.trans (hb1.mono hsr)) hbw1)
      clear hall hbq hb hbw hb1 hbw1 hx1 e0w e1w e2w hnm hMU hMA hbu hba hlk hsk tmu tma smu sma hW1 y1
      go_wp2_with fail
      rw [HW1.out]
      refine HU.out.mono ?_
      rintro en w5 ⟨rfl, hw⟩
      obtain rfl := hw.symm
      cases bu
      · go_wp2_with fail
        refine HA2.out.mono ?_
        rintro en w5 ⟨rfl, hw⟩
        obtain rfl := hw.symm
        cases ba
        · have H := Lib.hid (HA.out hbq'.symm)
          clear hbq' i0 i1 i2 e0 e1 e2
          go_wp2
          exact ⟨⟨k + 1, by omega, by go_num, HB.out.1, H.out⟩, by simp [intOf]; omega⟩
        · have H := Lib.hid (HYk.out hbq'.symm)
          clear hbq'
          go_wp2
          go_ret
          exact bB_mk (by rw [HR.out, H.out]; rfl) HB.out.2
      · have H := Lib.hid (HYk.out (by rw [← hbq']; rfl))
        clear hbq'
        go_wp2
        go_ret
        exact bB_mk (by rw [HR.out, H.out]; rfl) HB.out.2
    · obtain rfl : k = n := by omega
      have H := Lib.hid (HN.out (fun j hj => hall j hj (by rw [← HL.out]; exact hj)))
      have hx1 : wr.cell? ⟨w.heap.size, 0, none⟩ = some (.pointer (some ⟨g, 0, none⟩)) := (hb.cell (p := ⟨w.heap.size, 0, none⟩) hz0).trans (obj_cell HX.out.1 0 _ rfl)
      have HO := Lib.hid (HCo.out wr hbw hx1)
      have HB := Lib.hid hbw
      obtain ⟨bo, hbo⟩ : ∃ b, inL N objL = b := ⟨_, rfl⟩
      rw [hbo] at HO HR
      clear hb hall hbw hx1 hbo
      go_wp2_with fail
      refine HO.out.mono ?_
      rintro en w5 ⟨rfl, hw⟩
      obtain rfl := hw.symm
      go_wp2
      go_ret
      exact bB_mk (by rw [HR.out, H.out]; simp) HB.out
end Go.Proofs.YtcfckgpjdaadeaaGreatDoor
namespace Go.Proofs.YtcfckgpjdaadeaaGreatDoor
set_option linter.unusedSimpArgs false
set_option linter.unusedVariables false
open Go Go.RowKit Go.Proofs.BerK Go.Proofs.MemK Go.Proofs.UtfK

/-- May types and classes be a schema? The error's number. -/
def scNw (T : List Ty) (C : List Cl) : Nat :=
  if 1024 < T.length ∨ 1024 < C.length then 3 else if scChk T C ≠ 0 then scChk T C else if hasTyB ((T.map lowTy).map (·.1)) (C.map lowCl) = true then 0 else 8
theorem scChk_fill (T : List Ty) (C : List Cl) : scChk T C = if scFT T ≠ 0 then scFT T else scFC C := by
  have h : ∀ l, nmsL l = 0 ∨ nmsL l = 13 := fun l => by unfold nmsL; split; exact .inl rfl; exact .inr rfl
  unfold scChk scFT scFC
  rcases h (T.map Prod.fst) with h1 | h1 <;> rcases h (C.map Prod.fst) with h2 | h2 <;> simp only [h1, h2] <;> simp <;> (repeat' split) <;> simp_all
def ScNewPost (T : List Ty) (C : List Cl) (w : World) (en : Ending) (w' : World) : Prop :=
  (scNw T C ≠ 0 → en = .returned (.tuple #[.pointer none, .int .i64 (scNw T C : Nat)])) ∧
  (scNw T C = 0 → ∃ g, en = .returned (.tuple #[.pointer (some ⟨g, 0, none⟩), .int .i64 0]) ∧ ScAt w' g (T.map lowTy) (C.map lowCl)) ∧ Below w.heap.size w w'
theorem scNewPost_err {T : List Ty} {C : List Cl} {n : Nat} {w w' : World} (h : scNw T C = n) (hn : n ≠ 0) (hb : Below w.heap.size w w') : ScNewPost T C w (.returned (.tuple #[.pointer none, .int .i64 (n : Nat)])) w' := by
  subst h; exact ⟨fun _ => rfl, fun h => absurd h hn, hb⟩
theorem scFT_vals (T : List Ty) : scFT T = 0 ∨ scFT T = 13 ∨ scFT T = 1 ∨ scFT T = 9 := by
  unfold scFT; repeat' split
  all_goals simp
theorem scFC_vals (C : List Cl) : scFC C = 0 ∨ scFC C = 13 ∨ scFC C = 9 := by
  unfold scFC; repeat' split
  all_goals simp
theorem tyAt_chg {S : Nat → Prop} {w w' : World} {v : Value} {T : List Ty} (h : TyAt w v T) (hc : Chg S w w') (hs : ∀ g o n c, v = .slice (some ⟨g, o, none⟩) n c → ¬ S g) : TyAt w' v T := by
  obtain ⟨a, c, rfl, h⟩ := h
  refine ⟨a, c, rfl, fun i hi => ?_⟩
  obtain ⟨g, o, rfl, h2, h3, h4, h5⟩ := h i hi
  have hb : ¬ S g := hs g o _ _ rfl
  have hbl := hc.block g h2 hb
  exact ⟨g, o, rfl, Nat.lt_of_lt_of_le h2 hc.size, (World.cell?_of_block (w := w) (a := ⟨g, _, none⟩) hbl).trans h3, (World.cell?_of_block (w := w) (a := ⟨g, _, none⟩) hbl).trans h4, (World.cell?_of_block (w := w) (a := ⟨g, _, none⟩) hbl).trans h5⟩
set_option maxHeartbeats 3200000 in
set_option maxRecDepth 100000 in
theorem snew_any (T : List Ty) (C : List Cl) (tv cv : Value) (w : World) (h : TyAt w tv T) (h2 : ClAt w cv C) (hbt : ∀ t ∈ T, t.1.length ≤ 140737488355328) (hbc : ∀ t ∈ C, t.1.length ≤ 140737488355328)
    (hlm : ∀ c ∈ C, c.2.1.length ≤ 1000000 ∧ c.2.2.length ≤ 1000000) (hs : ∀ c ∈ C, (∀ s ∈ c.2.1, s.length ≤ 140737488355328) ∧ ∀ s ∈ c.2.2, s.length ≤ 140737488355328) :
    Calls Tryz.prog 22 #[tv, cv] w (ScNewPost T C w) := by
  obtain ⟨S, hS⟩ : ∃ S, scNw T C = S := ⟨_, rfl⟩
  have hS' := hS
  unfold scNw at hS'
  obtain ⟨ta, tc, rfl, htc⟩ := id h
  obtain ⟨ca, cc, rfl, hcc⟩ := id h2
  by_cases hT : 1024 < T.length
  · rw [if_pos (.inl hT)] at hS'
    have H := Lib.hid (hS.trans hS'.symm)
    have hT' : (1024 : Int) < (T.length : Int) := by omega
    clear h h2 hS hS' htc hcc
    go_enter Tryz.func22, Tryz.ntmps22
    go_wp2
    go_ret2
    exact scNewPost_err H.out (by decide) (Below.refl _ _)
  have hT' : (T.length : Int) ≤ 1024 := by omega
  by_cases hC : 1024 < C.length
  · rw [if_pos (.inr hC)] at hS'
    have H := Lib.hid (hS.trans hS'.symm)
    have hC' : (1024 : Int) < (C.length : Int) := by omega
    clear h h2 hS hS' htc hcc
    go_enter Tryz.func22, Tryz.ntmps22
    go_wp2
    go_ret2
    exact scNewPost_err H.out (by decide) (Below.refl _ _)
  have hC' : (C.length : Int) ≤ 1024 := by omega
  rw [if_neg (by omega), scChk_fill] at hS'
  obtain ⟨W0, hW0⟩ : ∃ W0, w.alloc (.cells #[.map none, .slice none 0 0, .map none, .slice none 0 0] 77) = W0 := ⟨_, rfl⟩
  have hb0 : Below w.heap.size w W0 := by rw [← hW0]; exact (Below.refl _ w).alloc (Nat.le_refl _) _
  have x0 : W0.heap[w.heap.size]? = some (.cells #[.map none, .slice none 0 0, .map none, .slice none 0 0] 77 (0, 0)) := by rw [← hW0]; exact heap_alloc_new w _
  have HF := Lib.hid (fillT_any T _ w.heap.size w W0 h hb0 (Nat.le_refl _) (by omega) hbt x0)
  have HFC := Lib.hid (fun m1 v1 W1 (hb : Below w.heap.size w W1) hx => fillC_any C _ w.heap.size m1 v1 w W1 h2 hb (Nat.le_refl _) (by omega) hbc hlm hx)
  have HHT := Lib.hid (fun W2 (hx : ScAt W2 w.heap.size (T.map lowTy) (C.map lowCl)) => hasTypes_any w.heap.size (T.map lowTy) (C.map lowCl) W2 hx (by simp; omega)
    (fun c hc => by obtain ⟨u, hu, rfl⟩ := List.mem_map.1 hc; simpa [lowCl] using hlm u hu)
    (fun c hc => by
      obtain ⟨u, hu, rfl⟩ := List.mem_map.1 hc
      refine ⟨fun s hs' => ?_, fun s hs' => ?_⟩
      · obtain ⟨v, hv, rfl⟩ := List.mem_map.1 hs'; simpa [lowL] using (hs u hu).1 v hv
      · obtain ⟨v, hv, rfl⟩ := List.mem_map.1 hs'; simpa [lowL] using (hs u hu).2 v hv))
  have HW0 := Lib.hid hW0
  have HB0 := Lib.hid hb0
  have HS := Lib.hid hS'
  have HSS := Lib.hid hS
  obtain ⟨nT, hnT⟩ : ∃ n, T.length = n := ⟨_, rfl⟩
  obtain ⟨nC, hnC⟩ : ∃ n, C.length = n := ⟨_, rfl⟩
  have hz0 : w.heap.size < W0.heap.size := obj_lt x0
  rw [hnT] at hT' HF ⊢
  rw [hnC] at hC' HFC ⊢
  clear h h2 hS hS' htc hcc hT hC hW0 hb0 x0 hnT hnC hbt hbc hlm hs
  go_enter Tryz.func22, Tryz.ntmps22
  go_wp2_with fail
  rw [HW0.out]
  refine HF.out.mono ?_
  rintro en W1 ⟨rfl, hch, hok⟩
  have HO := Lib.hid (And.intro hch hok)
  have hbw1 : Below w.heap.size w W1 := HB0.out.trans (hch.toBelow HB0.out.size (fun k _ hk => by have hk : k = w.heap.size := hk; omega))
  have HB1 := Lib.hid hbw1
  have hz1 := hch.size
  clear hch hok hbw1
  rcases scFT_vals T with hv | hv | hv | hv
  · rw [hv] at HO HS ⊢
    obtain ⟨mv, a1, n1, c1, x1, nm1, ty1, hbs⟩ := HO.out.2 rfl
    have HFC2 := Lib.hid (HFC.out mv (.slice a1 n1 c1) W1 HB1.out x1)
    have HY := Lib.hid (And.intro nm1 (And.intro ty1 (And.intro x1 hbs)))
    have hgl1 := obj_lt x1
    clear x1 nm1 ty1 hv hbs
    go_wp2_with fail
    refine HFC2.out.mono ?_
    rintro en W2 ⟨rfl, hch, hok⟩
    have HO2 := Lib.hid (And.intro hch hok)
    have hbw2 : Below w.heap.size w W2 := HB1.out.trans (hch.toBelow HB1.out.size (fun k _ hk => by have hk : k = w.heap.size := hk; omega))
    have HB2 := Lib.hid hbw2
    have hz2 := hch.size
    clear hch hok hbw2
    rcases scFC_vals C with hv | hv | hv
    · rw [hv] at HO2 HS ⊢
      obtain ⟨mv2, a2, n2, c2, x2, nm2, cl2⟩ := HO2.out.2 rfl
      have hsc : ScAt W2 w.heap.size (T.map lowTy) (C.map lowCl) := ⟨mv, a1, n1, c1, mv2, a2, n2, c2, x2, nmAt_chg HY.out.1 HO2.out.1 (fun b hb e => by subst hb; exact nmAt_ne HY.out.1 HY.out.2.2.1 e),
        tyAt_chg HY.out.2.1 HO2.out.1 (fun j o n c hj e => by injection hj with hj; have := HY.out.2.2.2 j o hj; have e' : j = w.heap.size := e; omega), nm2, cl2⟩
      have HSC := Lib.hid hsc
      have HH := Lib.hid (HHT.out W2 hsc)
      obtain ⟨r, hr⟩ : ∃ r, hasTyB ((T.map lowTy).map (·.1)) (C.map lowCl) = r := ⟨_, rfl⟩
      rw [hr] at HH HS
      clear x2 nm2 cl2 hsc hv hr
      go_wp2_with fail
      refine HH.out.mono ?_
      rintro en W3 ⟨rfl, hb3⟩
      have HB3 := Lib.hid (HB2.out.trans (hb3.mono HB2.out.size))
      have HS3 := Lib.hid (scAt_below HSC.out hb3)
      clear hb3
      cases r
      · have H := Lib.hid (HSS.out.trans HS.out.symm)
        go_wp2
        go_ret2
        exact scNewPost_err H.out (by decide) HB3.out
      · have H := Lib.hid (HSS.out.trans HS.out.symm)
        go_wp2
        go_ret2
        exact ⟨fun h => absurd H.out h, fun _ => ⟨_, rfl, HS3.out⟩, HB3.out⟩
    all_goals
      rw [hv] at HS ⊢
      have H := Lib.hid (HSS.out.trans HS.out.symm)
      clear hv
      go_wp2
      go_ret2
      exact scNewPost_err H.out (by decide) HB2.out
  all_goals
    rw [hv] at HS ⊢
    have H := Lib.hid (HSS.out.trans HS.out.symm)
    clear hv
    go_wp2
    go_ret2
    exact scNewPost_err H.out (by decide) HB1.out
end Go.Proofs.YtcfckgpjdaadeaaGreatDoor
namespace Go.Proofs.YtcfckgpjdaadeaaGreatDoor
set_option linter.unusedSimpArgs false
set_option linter.unusedVariables false
open Go Go.RowKit Go.Proofs.BerK Go.Proofs.MemK Go.Proofs.UtfK

/-- The plain types. -/
def plT : List Ty := [([99, 110], 1, false), ([115, 110], 1, false), ([111, 117], 1, false), ([100, 99], 1, false), ([111], 1, false), ([100, 101, 115, 99, 114, 105, 112, 116, 105, 111, 110], 1, false), ([109, 97, 105, 108], 1, false), ([111, 98, 106, 101, 99, 116, 99, 108, 97, 115, 115], 1, false), ([117, 115, 101, 114, 112, 97, 115, 115, 119, 111, 114, 100], 4, true), ([117, 105, 100], 1, true), ([117, 105, 100, 110, 117, 109, 98, 101, 114], 3, true), ([109, 101, 109, 98, 101, 114], 5, false), ([115, 101, 114, 105, 97, 108, 110, 117, 109, 98, 101, 114], 2, false)]
/-- The plain classes. -/
def plC : List Cl := [([116, 111, 112], [], []), ([112, 101, 114, 115, 111, 110], [[99, 110], [115, 110]], [[100, 101, 115, 99, 114, 105, 112, 116, 105, 111, 110], [117, 115, 101, 114, 112, 97, 115, 115, 119, 111, 114, 100], [109, 97, 105, 108], [117, 105, 100], [117, 105, 100, 110, 117, 109, 98, 101, 114], [115, 101, 114, 105, 97, 108, 110, 117, 109, 98, 101, 114], [109, 101, 109, 98, 101, 114]]), ([111, 114, 103, 97, 110, 105, 122, 97, 116, 105, 111, 110, 97, 108, 117, 110, 105, 116], [[111, 117]], [[100, 101, 115, 99, 114, 105, 112, 116, 105, 111, 110], [109, 101, 109, 98, 101, 114]]), ([100, 111, 109, 97, 105, 110], [[100, 99]], [[100, 101, 115, 99, 114, 105, 112, 116, 105, 111, 110], [111]]), ([103, 114, 111, 117, 112], [[99, 110]], [[109, 101, 109, 98, 101, 114], [100, 101, 115, 99, 114, 105, 112, 116, 105, 111, 110]])]
theorem plT_low : plT.map lowTy = plT := by decide +kernel
theorem plC_low : plC.map lowCl = plC := by decide +kernel
theorem pl_new : scNw plT plC = 0 := by decide +kernel
theorem tyAt_new (w : World) (T : List Ty) (e : TypeId) : TyAt (w.alloc (.cells (tycs T).toArray e)) (.slice (some ⟨w.heap.size, 0, none⟩) T.length T.length) T := by
  refine ⟨_, _, rfl, fun i hi => ⟨w.heap.size, 0, rfl, by simp, ?_⟩⟩
  obtain ⟨h1, h2, h3⟩ := tycs_at T i hi
  rw [Nat.zero_add]
  refine ⟨?_, ?_, ?_⟩
  · rw [World.cell?_alloc_mark w _ e (0, 0)]; simpa using h1
  · rw [World.cell?_alloc_mark w _ e (0, 0)]; simpa using h2
  · rw [World.cell?_alloc_mark w _ e (0, 0)]; simpa using h3
def PlTPost (w : World) (en : Ending) (w' : World) : Prop := ∃ v, en = .returned v ∧ TyAt w' v plT ∧ Below w.heap.size w w'
def PlCPost (w : World) (en : Ending) (w' : World) : Prop := ∃ v, en = .returned v ∧ ClAt w' v plC ∧ Below w.heap.size w w'
def PlainPost (w : World) (en : Ending) (w' : World) : Prop := ∃ g, en = .returned (.pointer (some ⟨g, 0, none⟩)) ∧ ScAt w' g plT plC ∧ Below w.heap.size w w'
set_option maxHeartbeats 1600000 in
set_option maxRecDepth 100000 in
theorem plT_any (w : World) : Calls Tryz.prog 34 #[] w (PlTPost w) := by
  have HT := Lib.hid (tyAt_new w plT 35)
  go_enter Tryz.func34, Tryz.ntmps34
  go_wp2
  go_ret
  exact ⟨_, rfl, HT.out, (Below.refl _ _).alloc (Nat.le_refl _) _⟩
/-- Rows of texts laid one behind the other. -/
def allocs (e : TypeId) (w : World) : List (List (List UInt8)) → World
  | [] => w
  | l :: r => allocs e (w.alloc (.cells (sc l).toArray e)) r
theorem allocs_size (e : TypeId) (ls : List (List (List UInt8))) : ∀ w : World, (allocs e w ls).heap.size = w.heap.size + ls.length := by
  induction ls with
  | nil => intro w; rfl
  | cons l r ih => intro w; rw [allocs, ih]; simp; omega
theorem allocs_below (e : TypeId) (ls : List (List (List UInt8))) : ∀ w : World, Below w.heap.size w (allocs e w ls) := by
  induction ls with
  | nil => intro w; exact Below.refl _ _
  | cons l r ih => intro w; exact ((Below.refl _ w).alloc (Nat.le_refl _) _).trans ((ih _).mono (by simp))
theorem allocs_at (e : TypeId) (ls : List (List (List UInt8))) : ∀ (w : World) (i : Nat) (h : i < ls.length), TxR (allocs e w ls) (.slice (some ⟨w.heap.size + i, 0, none⟩) ls[i].length ls[i].length) ls[i] := by
  induction ls with
  | nil => intro w i h; simp at h
  | cons l r ih =>
    intro w i h
    cases i with
    | zero => exact txR_below (txR_new w l e) (allocs_below e r _)
    | succ i =>
      have := ih (w.alloc (.cells (sc l).toArray e)) i (by simpa using h)
      rw [World.size_alloc, show w.heap.size + 1 + i = w.heap.size + (i + 1) by omega] at this
      exact this
theorem clAt_lit (w : World) (C : List Cl) (L : List (List UInt8 × Value × Value)) (e : TypeId) (hl : L.length = C.length) (h : ∀ i (h1 : i < C.length) (h2 : i < L.length), L[i].1 = C[i].1 ∧ TxR w L[i].2.1 C[i].2.1 ∧ TxR w L[i].2.2 C[i].2.2 ∧ SlOk L[i].2.1 ∧ SlOk L[i].2.2) :
    ClAt (w.alloc (.cells (clcs L).toArray e)) (.slice (some ⟨w.heap.size, 0, none⟩) C.length C.length) C := by
  refine ⟨_, _, rfl, fun i hi => ?_⟩
  obtain ⟨h0, t1, t2, s1, s2⟩ := h i hi (by omega)
  obtain ⟨a1, a2, a3⟩ := clcs_at L i (by omega)
  have hb : Below w.heap.size w (w.alloc (.cells (clcs L).toArray e)) := (Below.refl _ w).alloc (Nat.le_refl _) _
  refine ⟨w.heap.size, 0, L[i].2.1, L[i].2.2, rfl, by simp, ?_, ?_, ?_, txR_below t1 hb, txR_below t2 hb, s1, s2⟩
  · rw [Nat.zero_add, World.cell?_alloc_mark w _ e (0, 0)]; rw [h0] at a1; simpa using a1
  · rw [Nat.zero_add, World.cell?_alloc_mark w _ e (0, 0)]; simpa using a2
  · rw [Nat.zero_add, World.cell?_alloc_mark w _ e (0, 0)]; simpa using a3
def plLs : List (List (List UInt8)) := (plC.drop 1).flatMap fun c => [c.2.1, c.2.2]
def slN (b n : Nat) : Value := .slice (some ⟨b, 0, none⟩) n n
def plRow (b : Nat) : List (List UInt8 × Value × Value) :=
  [([116, 111, 112], .slice none 0 0, .slice none 0 0), ([112, 101, 114, 115, 111, 110], slN b 2, slN (b + 1) 7), ([111, 114, 103, 97, 110, 105, 122, 97, 116, 105, 111, 110, 97, 108, 117, 110, 105, 116], slN (b + 2) 1, slN (b + 3) 2),
   ([100, 111, 109, 97, 105, 110], slN (b + 4) 1, slN (b + 5) 2), ([103, 114, 111, 117, 112], slN (b + 6) 1, slN (b + 7) 2)]
theorem plC_at (w : World) : ClAt ((allocs 9 w plLs).alloc (.cells (clcs (plRow w.heap.size)).toArray 40)) (.slice (some ⟨w.heap.size + 8, 0, none⟩) 5 5) plC := by
  have hz := allocs_size 9 plLs w
  have ha := fun i h => allocs_at 9 plLs w i h
  have h := clAt_lit (allocs 9 w plLs) plC (plRow w.heap.size) 40 rfl (fun i h1 h2 => by
    match i, h1 with
    | 0, _ => exact ⟨rfl, txR_nil _ _ _, txR_nil _ _ _, .inl rfl, .inl rfl⟩
    | 1, _ => exact ⟨rfl, ha 0 (by decide), ha 1 (by decide), .inr ⟨_, _, _, rfl⟩, .inr ⟨_, _, _, rfl⟩⟩
    | 2, _ => exact ⟨rfl, ha 2 (by decide), ha 3 (by decide), .inr ⟨_, _, _, rfl⟩, .inr ⟨_, _, _, rfl⟩⟩
    | 3, _ => exact ⟨rfl, ha 4 (by decide), ha 5 (by decide), .inr ⟨_, _, _, rfl⟩, .inr ⟨_, _, _, rfl⟩⟩
    | 4, _ => exact ⟨rfl, ha 6 (by decide), ha 7 (by decide), .inr ⟨_, _, _, rfl⟩, .inr ⟨_, _, _, rfl⟩⟩)
  rw [hz] at h
  exact h
set_option maxHeartbeats 1600000 in
set_option maxRecDepth 100000 in
theorem plC_any (w : World) : Calls Tryz.prog 35 #[] w (PlCPost w) := by
  have HC := Lib.hid (plC_at w)
  have HB := Lib.hid (show Below w.heap.size w ((allocs 9 w plLs).alloc (.cells (clcs (plRow w.heap.size)).toArray 40)) from (allocs_below _ _ w).alloc (allocs_below _ _ w).size _)
  go_enter Tryz.func35, Tryz.ntmps35
  go_wp2
  go_ret
  exact ⟨_, rfl, HC.out, HB.out⟩
set_option maxHeartbeats 1600000 in
set_option maxRecDepth 100000 in
theorem plain_any (w : World) : Calls Tryz.prog 10 #[] w (PlainPost w) := by
  have HT := Lib.hid (plT_any w)
  have HC := Lib.hid plC_any
  go_enter Tryz.func10, Tryz.ntmps10
  go_wp2_with fail
  refine HT.out.mono ?_
  rintro en w1 ⟨tv, rfl, ht, hb1⟩
  have H1 := Lib.hid (And.intro ht hb1)
  clear ht hb1
  go_wp2_with fail
  refine (HC.out w1).mono ?_
  rintro en w2 ⟨cv, rfl, hc, hb2⟩
  have H2 := Lib.hid (And.intro (tyAt_below H1.out.1 hb2) (And.intro hc (H1.out.2.trans (hb2.mono H1.out.2.size))))
  clear hc hb2
  go_wp2_with fail
  refine (snew_any plT plC tv cv w2 H2.out.1 H2.out.2.1 (by decide +kernel) (by decide +kernel) (by decide +kernel) (by decide +kernel)).mono ?_
  rintro en w3 ⟨_, hok, hb3⟩
  obtain ⟨g, rfl, hsc⟩ := hok pl_new
  rw [plT_low, plC_low] at hsc
  have H3 := Lib.hid (And.intro hsc (H2.out.2.2.trans (hb3.mono H2.out.2.2.size)))
  clear hsc hb3 hok
  go_wp2
  go_ret
  exact ⟨g, rfl, H3.out.1, H3.out.2⟩
end Go.Proofs.YtcfckgpjdaadeaaGreatDoor
