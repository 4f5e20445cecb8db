/- The code's Parts tells what the plain function pa tells, for every text that is no longer than a text may be and every row of tags. -/
import Derived.Test.YtlnfbjgadcifkaaDoorTreeE
import Derived.BigQuiet
import Derived.Deep.QuietTactic
import Derived.Laws.OwnMore
namespace Go.Proofs.YtlnfbjgadcifkaaDoor
open Go.RowKit Go.Proofs.BerM Go.Proofs.BerK Go.Proofs.MemK

/-- The bodies of the parts of bytes, by their tags; the error. -/
def pa (l : List UInt8) (ts : List Nat) : List (List UInt8) × Nat :=
  if (rd l).2.2.2 ≠ 0 then ([], (rd l).2.2.2) else
  if (rd l).1 ≠ 48 then ([], 6) else
  if (rd l).2.2.1 < l.length then ([], 5) else
  if (al (rd l).2.1).2 ≠ 0 then ([], (al (rd l).2.1).2) else
  if (al (rd l).2.1).1.length ≠ ts.length then ([], 5) else
  if (al (rd l).2.1).1.map Prod.fst = ts then ((al (rd l).2.1).1.map Prod.snd, 0) else ([], 6)

theorem rowAt_uni {w : World} {v : Value} {L : List TB} (h : RowAt w v L) : ∃ a c, v = .slice a L.length c ∧ ∀ i (hi : i < L.length), ∃ g, a = some ⟨g, 0, none⟩ ∧ g < w.heap.size ∧ w.cell? ⟨g, i * 2, none⟩ = some (.int .i64 (L[i].1 : Int)) ∧ w.cell? ⟨g, i * 2 + 1, none⟩ = some (.string ⟨L[i].2.toArray⟩) := by
  rcases h with ⟨rfl, a, c, rfl⟩ | ⟨_, g, c, rfl, hg, hq⟩
  · exact ⟨a, c, rfl, fun i hi => by simp at hi⟩
  · exact ⟨_, c, rfl, fun i hi => ⟨g, rfl, hg, hq i hi⟩⟩

theorem take_eq_snoc {P : List TB} {ts : List Nat} {i : Nat} (h1 : i < P.length) (h2 : i < ts.length) (h : (P.map Prod.fst).take i = ts.take i) (he : P[i].1 = ts[i]) : (P.map Prod.fst).take (i + 1) = ts.take (i + 1) := by
  rw [List.take_succ_eq_append_getElem (by simpa using h1), List.take_succ_eq_append_getElem h2, h]
  simp [he]
theorem map_ne {P : List TB} {ts : List Nat} {i : Nat} (h1 : i < P.length) (h2 : i < ts.length) (he : P[i].1 ≠ ts[i]) : P.map Prod.fst ≠ ts := by
  intro h
  subst h
  simp at he
/-- Parts' answer. -/
def PaPost (B : List (List UInt8)) (e : Nat) (w : World) (en : Ending) (w' : World) : Prop :=
  ∃ v, en = .returned (.tuple #[v, .int .i64 (e : Nat)]) ∧ w'.ownsRow w.heap.size 9 1 v B.length (sc B) ∧ Below w.heap.size w w'
theorem pap_err {e : Nat} {w w' : World} (hb : Below w.heap.size w w') : PaPost [] e w (.returned (.tuple #[.slice none 0 0, .int .i64 (e : Nat)])) w' :=
  ⟨_, rfl, World.ownsRow_nil _ _ _ _, hb⟩

theorem Tryd.info9 : (Tryd.prog.info? 9).map (fun i => (i.zero, i.size, i.bytes)) = some (some (.string ByteArray.empty), 1, 16) := by kernel_rfl

set_option maxHeartbeats 800000 in
set_option maxRecDepth 100000 in
theorem pa_err (s : ByteArray) (vt : Value) (w : World) (hm : s.size ≤ maxLen) (t sz e : Nat) (b : List UInt8) (hr : rd s.data.toList = (t, b, sz, e)) (he : e ≠ 0) :
    Calls Tryd.prog 28 #[.string s, vt] w (PaPost [] e w) := by
  have HC := Lib.hid fun w => rd_any s w hm t sz e b hr
  have h1 : ((e : Int) != 0) = true := by rw [bne_iff_ne]; omega
  clear hr
  go_enter Tryd.func28, Tryd.ntmps28
  go_wp2_with fail
  refine (HC.out _).mono ?_
  rintro en w1 ⟨rfl, hb1⟩
  go_wp2
  go_ret2
  exact pap_err (hb1.alloc hb1.size _)

set_option maxHeartbeats 800000 in
set_option maxRecDepth 100000 in
theorem pa_tag (s : ByteArray) (vt : Value) (w : World) (hm : s.size ≤ maxLen) (t sz : Nat) (b : List UInt8) (hr : rd s.data.toList = (t, b, sz, 0)) (ht : t ≠ 48) :
    Calls Tryd.prog 28 #[.string s, vt] w (PaPost [] 6 w) := by
  have HC := Lib.hid fun w => rd_any s w hm t sz 0 b hr
  have h1 : ((t : Int) != 48) = true := by rw [bne_iff_ne]; omega
  clear hr
  go_enter Tryd.func28, Tryd.ntmps28
  go_wp2_with fail
  refine (HC.out _).mono ?_
  rintro en w1 ⟨rfl, hb1⟩
  go_wp2
  go_ret2
  exact pap_err (hb1.alloc hb1.size _)

set_option maxHeartbeats 800000 in
set_option maxRecDepth 100000 in
theorem pa_form (s : ByteArray) (vt : Value) (w : World) (hm : s.size ≤ maxLen) (sz : Nat) (b : List UInt8) (hr : rd s.data.toList = (48, b, sz, 0)) (hs : sz < s.size) :
    Calls Tryd.prog 28 #[.string s, vt] w (PaPost [] 5 w) := by
  have HC := Lib.hid fun w => rd_any s w hm 48 sz 0 b hr
  unfold maxLen at hm
  clear hr
  go_enter Tryd.func28, Tryd.ntmps28
  go_wp2_with fail
  refine (HC.out _).mono ?_
  rintro en w1 ⟨rfl, hb1⟩
  go_wp2
  go_ret2
  exact pap_err (hb1.alloc hb1.size _)

set_option maxHeartbeats 1600000 in
set_option maxRecDepth 100000 in
theorem pa_main (s : ByteArray) (vt : Value) (ts : List Nat) (w : World) (hm : s.size ≤ maxLen) (hts : IntAt w vt ts) (htl : ts.length ≤ 1024) (sz : Nat) (b : List UInt8) (hr : rd s.data.toList = (48, b, sz, 0)) (hs : ¬ sz < s.size) (P : List TB) (e : Nat) (ha : al b = (P, e)) (B : List (List UInt8)) (e2 : Nat)
    (hB : (if e ≠ 0 then ([], e) else if P.length ≠ ts.length then ([], 5) else if P.map Prod.fst = ts then (P.map Prod.snd, 0) else ([], 6)) = (B, e2)) :
    Calls Tryd.prog 28 #[.string s, vt] w (PaPost B e2 w) := by
  have HC := Lib.hid fun w => rd_any s w hm 48 sz 0 b hr
  have hgb : b.length ≤ 65536 := (rd_good _ 48 sz b hr).1.2
  have hgl := al_good b
  rw [ha] at hgl
  have hPl : P.length ≤ 1024 := hgl.2
  have HA := Lib.hid ha
  have HB := Lib.hid hB
  obtain ⟨at1, ct, rfl, htq⟩ := hts
  have HT := Lib.hid htq
  unfold maxLen at hm
  clear hr ha hB hgl htq
  go_enter Tryd.func28, Tryd.ntmps28
  go_wp2_with fail
  refine (HC.out _).mono ?_
  rintro en w1 ⟨rfl, hb1⟩
  go_wp2_with fail
  refine (al_any ⟨b.toArray⟩ _ (by unfold maxLen; show b.length ≤ _; omega)).mono ?_
  rintro en w2 ⟨v, rfl, hown, hb2⟩
  have hAl : al (⟨b.toArray⟩ : ByteArray).data.toList = (P, e) := HA.out
  rw [hAl] at hown ⊢
  obtain ⟨ap, cp, rfl, hpq⟩ := rowAt_uni (rowAt_owns hown)
  have HP := Lib.hid hpq
  have hb02 : Below w.heap.size w w2 := (hb1.alloc hb1.size _).trans (hb2.mono (by have := hb1.size; simp; omega))
  clear hAl hown hb1 hb2 hpq
  by_cases he : e = 0
  · subst he
    by_cases hn : P.length = ts.length
    · have hv := HB.out
      rw [if_neg (by simp), if_neg (by simpa using hn)] at hv
      have HV := Lib.hid hv
      have hne : ((P.length : Int) != (ts.length : Int)) = false := by rw [bne_eq_false_iff_eq]; omega
      have HN := Lib.hid hn
      clear hv HB hn
      obtain ⟨i0, hi, hz0, hz1, hz2⟩ := info_parts Tryd.info9
      have HI := Lib.hid hi
      have HZ0 := Lib.hid hz0
      have HZ1 := Lib.hid hz1
      have HZ2 := Lib.hid hz2
      clear hi hz0 hz1 hz2
      go_wp2_with (at_make; refine wpList_make_full _ rfl _ _ 64 rfl w2.heap.size 9 i0 (.string ByteArray.empty) 1 Tryd.underlying64 HI.out HZ0.out HZ1.out _ _ _ _ P.length rfl rfl ?e1 ?e2 ?b0 ?b1 ?b2 ?_)
      case e1 => rfl
      case e2 => rfl
      case b0 => rw [HZ2.out]; omega
      case b1 => unfold maxLen; omega
      case b2 => omega
      intro w3 hown3 hg3
      have hb3 : Below w2.heap.size w2 w3 := (Below.refl _ _).grown hg3 (Nat.le_refl _) (fun k hk => by cases hk)
      have e0 := preS_0 (P.map Prod.snd)
      rw [List.length_map] at e0
      rw [← e0] at hown3
      clear e0 hg3
      go_wp2
      go_loopw [48] (fun v48 wr => ∃ i : Nat, v48 = .int .i64 i ∧ i ≤ P.length ∧ (P.map Prod.fst).take i = ts.take i ∧ wr.ownsRow w2.heap.size 9 1 (.slice (some ⟨w2.heap.size, 0, none⟩) P.length P.length) P.length (sc (preS (P.map Prod.snd) i)) ∧ Below w2.heap.size w2 wr) (fun v48 _ => P.length - (intOf v48).toNat)
      case atStart => exact ⟨0, rfl, Nat.zero_le _, rfl, hown3, hb3⟩
      case round =>
        obtain ⟨i, rfl, hi, hinv, hown, hbel⟩ := hrel
        have HInv := Lib.hid hinv
        clear hinv hown3 hb3
        by_cases hlt : i < P.length
        · have hlt2 : i < ts.length := by have := HN.out; omega
          obtain ⟨g, rfl, hg, hp0, hp1⟩ := HP.out i hlt
          obtain ⟨gt, rfl, hgt, ht0⟩ := HT.out i hlt2
          have hc0 := (hbel.cell (p := ⟨g, i * 2, none⟩) hg).trans hp0
          have hc1 := (hbel.cell (p := ⟨g, i * 2 + 1, none⟩) hg).trans hp1
          have hc2 := (hbel.cell (p := ⟨gt, i, none⟩) (Nat.lt_of_lt_of_le hgt hb02.size)).trans ((hb02.cell (p := ⟨gt, i, none⟩) hgt).trans ht0)
          have HX := Lib.hid (take_eq_snoc hlt hlt2 HInv.out)
          have HY := Lib.hid (map_ne hlt hlt2)
          have hset := preS_set (P.map Prod.snd) i (by simpa using hlt)
          have hat := preS_at (P.map Prod.snd) i (by simpa using hlt)
          rw [List.getElem_map] at hset
          obtain ⟨t', b', hx⟩ : ∃ t' b', P[i] = (t', b') := ⟨_, _, rfl⟩
          obtain ⟨u, hu⟩ : ∃ u, ts[i] = u := ⟨_, rfl⟩
          rw [hx] at hc0 hc1 HX HY hset
          rw [hu] at hc2 HX HY
          have HSet := Lib.hid hset
          have hgw : gt ≠ wr.heap.size := by have := hbel.size; have := hb02.size; omega
          have hc2a := (World.cell?_alloc_old wr (.cells #[.int .i64 t', .string ⟨b'.toArray⟩] 54) ⟨gt, i, none⟩ hgw).trans hc2
          have HOa := Lib.hid (hown.alloc (.cells #[.int .i64 t', .string ⟨b'.toArray⟩] 54))
          have hcell := (HOa.out.cellAt i (by omega)).trans hat
          have hfz := HOa.out.frozenAt i
          have hi0 : (0 : Int) ≤ i := by omega
          have hi1 : (i : Int) < (P.length : Int) := by omega
          have hi2 : (i : Int) < (ts.length : Int) := by omega
          clear hp0 hp1 ht0 hset hat hx hu hg hgt hown hc2 hgw
          by_cases htu : t' = u
          · have hq : ((t' : Int) != (u : Int)) = false := by rw [bne_eq_false_iff_eq]; omega
            have HTU := Lib.hid htu
            clear htu
            go_wp2
            go_quiet (fail)
            go_wp2
            go_roundw
            case rel =>
              refine ⟨i + 1, by go_num, by omega, HX.out HTU.out, ?_, ?_⟩
              · have h7 := (HOa.out.stored i (.string ⟨b'.toArray⟩)).1
                rw [HSet.out] at h7
                exact ownsRow_heap h7 rfl
              · exact below_dn ((hbel.alloc hbel.size _).setCell (p := ⟨w2.heap.size, i, none⟩) (Nat.le_refl _) _) nq
            case measure => simp [intOf]; omega
          · have hq : ((t' : Int) != (u : Int)) = true := by rw [bne_iff_ne]; omega
            have hv := HV.out
            rw [if_neg (HY.out htu)] at hv
            simp only [Prod.mk.injEq] at hv
            obtain ⟨rfl, rfl⟩ := hv
            clear htu
            go_wp2
            go_quiet (fail)
            go_wp2
            go_ret2
            exact pap_err (hb02.trans ((below_dn (hbel.alloc hbel.size _) nq).mono hb02.size))
        · have hi' : i = P.length := by omega
          have hall : P.map Prod.fst = ts := by
            have := HInv.out
            rw [hi', List.take_of_length_le (by simp), HN.out, List.take_length] at this
            exact this
          have hv := HV.out
          rw [if_pos hall] at hv
          simp only [Prod.mk.injEq] at hv
          obtain ⟨rfl, rfl⟩ := hv
          have ho := hown
          rw [hi', show P.length = (P.map Prod.snd).length by simp, preS_all] at ho
          have HO := Lib.hid ho
          clear ho hown hall hi'
          go_wp2
          go_ret2
          exact ⟨_, rfl, ownsRow_base (by simpa using HO.out) hb02.size, hb02.trans (hbel.mono hb02.size)⟩
    · have hv := HB.out
      rw [if_neg (by simp), if_pos (by simpa using hn)] at hv
      simp only [Prod.mk.injEq] at hv
      obtain ⟨rfl, rfl⟩ := hv
      have hne : ((P.length : Int) != (ts.length : Int)) = true := by rw [bne_iff_ne]; omega
      clear HB
      go_wp2
      go_ret2
      exact pap_err hb02
  · have hv := HB.out
    rw [if_pos he] at hv
    simp only [Prod.mk.injEq] at hv
    obtain ⟨rfl, rfl⟩ := hv
    have h1 : ((e : Int) != 0) = true := by rw [bne_iff_ne]; omega
    clear HB
    go_wp2
    go_ret2
    exact pap_err hb02

theorem parts_any (s : ByteArray) (vt : Value) (ts : List Nat) (w : World) (hm : s.size ≤ maxLen) (hts : IntAt w vt ts) (htl : ts.length ≤ 1024) (B : List (List UInt8)) (e : Nat) (hp : pa s.data.toList ts = (B, e)) :
    Calls Tryd.prog 28 #[.string s, vt] w (PaPost B e w) := by
  obtain ⟨t, b, sz, e1, hr⟩ : ∃ t b sz e1, rd s.data.toList = (t, b, sz, e1) := ⟨_, _, _, _, rfl⟩
  rw [pa, hr] at hp
  by_cases he : e1 = 0
  · subst he
    rw [if_neg (by simp)] at hp
    by_cases ht : t = 48
    · subst ht
      rw [if_neg (by simp)] at hp
      by_cases hs : sz < s.size
      · rw [if_pos (by rw [len_list]; exact hs)] at hp
        simp only [Prod.mk.injEq] at hp
        obtain ⟨rfl, rfl⟩ := hp
        exact pa_form s vt w hm sz b hr hs
      · rw [if_neg (by rw [len_list]; exact hs)] at hp
        obtain ⟨P, e2, ha⟩ : ∃ P e2, al b = (P, e2) := ⟨_, _, rfl⟩
        simp only [ha] at hp
        exact pa_main s vt ts w hm hts htl sz b hr hs P e2 ha B e hp
    · rw [if_pos ht] at hp
      simp only [Prod.mk.injEq] at hp
      obtain ⟨rfl, rfl⟩ := hp
      exact pa_tag s vt w hm t sz b hr ht
  · rw [if_pos he] at hp
    simp only [Prod.mk.injEq] at hp
    obtain ⟨rfl, rfl⟩ := hp
    exact pa_err s vt w hm t sz e1 b hr he
end Go.Proofs.YtlnfbjgadcifkaaDoor
