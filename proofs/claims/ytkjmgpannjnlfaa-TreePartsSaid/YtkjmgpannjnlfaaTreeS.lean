/- The walk of the law TreeParts: it returns true and leaves what was in memory as it was. -/
import Derived.Test.YtkjmgpannjnlfaaTreeR
namespace Go.Proofs.Ytkjmgpannjnlfaa
open Go.RowKit Go.Proofs.BerM Go.Proofs.BerK

/-- Bytes lie in memory, one behind the other. -/
def ByteAt (w : World) (v : Value) (bs : List UInt8) : Prop :=
  ∃ a c, v = .slice a bs.length c ∧ ∀ i (hi : i < bs.length), ∃ g o, a = some ⟨g, o, none⟩ ∧ g < w.heap.size ∧ w.cell? ⟨g, o + i, none⟩ = some (.int .u8 (bs[i].toNat : Nat))
/-- Numbers as cells. -/
def ic (ts : List Nat) : List Value := ts.map fun n => Value.int .i64 (n : Nat)
theorem intAt_owns {w : World} {B : Nat} {v : Value} {ts : List Nat} (h : w.ownsRow B 3 1 v ts.length (ic ts)) : IntAt w v ts := by
  rcases h.2 with ⟨rfl, h0⟩ | ⟨g, cap, cur, rfl, _, hg, _⟩
  · exact ⟨none, 0, by rw [h0], fun i hi => by omega⟩
  · refine ⟨_, cap, rfl, fun i hi => ⟨g, rfl, (Array.getElem?_eq_some_iff.1 hg).1, ?_⟩⟩
    rw [h.cellAt i (by omega)]
    simp [ic, hi]
theorem intAt_below {w w' : World} {v : Value} {ts : List Nat} (h : IntAt w v ts) (hb : Below w.heap.size w w') : IntAt w' v ts := by
  obtain ⟨a, c, rfl, h⟩ := h
  refine ⟨a, c, rfl, fun i hi => ?_⟩
  obtain ⟨g, rfl, hg, hc⟩ := h i hi
  exact ⟨g, rfl, Nat.lt_of_lt_of_le hg hb.size, (hb.cell (p := ⟨g, i, none⟩) hg).trans hc⟩
theorem ic_take (bs : List UInt8) (j : Nat) (h : j < bs.length) : ic ((bs.map UInt8.toNat).take (j + 1)) = ic ((bs.map UInt8.toNat).take j) ++ [.int .i64 (bs[j].toNat : Nat)] := by
  rw [List.take_succ_eq_append_getElem (by simpa using h), List.getElem_map]
  simp only [ic, List.map_append, List.map_cons, List.map_nil]
theorem pa_len (l : List UInt8) (ts : List Nat) (B : List (List UInt8)) (e : Nat) (h : pa l ts = (B, e)) : B.length ≤ 1024 := by
  have hg := (al_good (rd l).2.1).2
  unfold pa at h
  repeat' split at h
  all_goals
    simp only [Prod.mk.injEq] at h
    rw [← h.1]
    simp
  exact hg

theorem Try.info3 : (Try.prog.info? 3).map (fun i => (i.zero, i.size, i.bytes)) = some (some (.int .i64 0), 1, 8) := by kernel_rfl

set_option maxHeartbeats 800000 in
set_option maxRecDepth 100000 in
theorem tparts_asleep (a0 : Option Addr) (c0 n0 : Nat) (s : ByteArray) (a2 : Option Addr) (c2 n2 : Nat) (w : World) (h0 : n0 ≤ maxLen) (h1 : s.size ≤ maxLen) (h2 : n2 ≤ maxLen) (h : 20 < n0 ∨ 1000 < s.size ∨ 20 < n2) :
    Calls Try.prog 4 #[.slice a0 n0 c0, .string s, .slice a2 n2 c2] w fun e w' => e = .returned (.bool true) ∧ Below w.heap.size w w' := by
  unfold maxLen at h0 h1 h2
  by_cases k0 : 20 < n0
  · clear h
    go_enter Try.func4, Try.ntmps4
    go_wp2_with fail
    refine (awake_any _).mono ?_
    rintro e w1 ⟨rfl, hb1⟩
    go_wp2
    go_ret
    exact ⟨rfl, hb1⟩
  · by_cases k1 : 1000 < s.size
    · clear h
      go_enter Try.func4, Try.ntmps4
      go_wp2_with fail
      refine (awake_any _).mono ?_
      rintro e w1 ⟨rfl, hb1⟩
      go_wp2
      go_ret
      exact ⟨rfl, hb1⟩
    · have k2 : 20 < n2 := by omega
      clear h
      go_enter Try.func4, Try.ntmps4
      go_wp2_with fail
      refine (awake_any _).mono ?_
      rintro e w1 ⟨rfl, hb1⟩
      go_wp2
      go_ret
      exact ⟨rfl, hb1⟩

set_option maxHeartbeats 3200000 in
set_option maxRecDepth 100000 in
theorem tparts_awake (a0 : Option Addr) (c0 : Nat) (l : List (List UInt8)) (s : ByteArray) (a2 : Option Addr) (c2 : Nat) (bs : List UInt8) (w : World) (hv : StrAt w (.slice a0 l.length c0) l) (hl : ∀ x ∈ l, x.length ≤ maxLen) (hbs : ByteAt w (.slice a2 bs.length c2) bs)
    (k0 : ¬ 20 < l.length) (k1 : ¬ 1000 < s.size) (k2 : ¬ 20 < bs.length) :
    Calls Try.prog 4 #[.slice a0 l.length c0, .string s, .slice a2 bs.length c2] w fun e w' => e = .returned (.bool true) ∧ Below w.heap.size w w' := by
  have HL := Lib.hid hl
  have HV := Lib.hid hv
  have hcells : ∀ i (hi : i < l.length), ∃ g o, a0 = some ⟨g, o, none⟩ ∧ g < w.heap.size ∧ w.cell? ⟨g, o + i, none⟩ = some (.string ⟨l[i].toArray⟩) := by
    intro i hi
    rcases hv with ⟨h0, _⟩ | ⟨_, g, o, c, hv, hg, hq⟩
    · rw [h0] at hi; simp at hi
    · cases hv; exact ⟨g, o, rfl, hg, hq i hi⟩
  have HC := Lib.hid hcells
  have hbc : ∀ i (hi : i < bs.length), ∃ g o, a2 = some ⟨g, o, none⟩ ∧ g < w.heap.size ∧ w.cell? ⟨g, o + i, none⟩ = some (.int .u8 (bs[i].toNat : Nat)) := by
    obtain ⟨a, c, h1, h2⟩ := hbs
    cases h1; exact h2
  have HB := Lib.hid hbc
  clear hl hv hcells hbs hbc
  go_enter Try.func4, Try.ntmps4
  go_wp2
  go_loop [7] (fun v7 => ∃ i : Nat, v7 = .int .i64 i ∧ i ≤ l.length ∧ ∀ x ∈ l.take i, x.length ≤ 300) (fun v7 => l.length - (intOf v7).toNat)
  case atStart => exact ⟨0, rfl, Nat.zero_le _, by simp⟩
  case round =>
    obtain ⟨i, rfl, hi, hall⟩ := hrel
    have HAll := Lib.hid hall
    clear hall
    by_cases hlt : i < l.length
    · obtain ⟨g, o, rfl, hg, hq⟩ := HC.out i hlt
      have hxm := HL.out l[i] (List.getElem_mem hlt)
      have HM := Lib.hid (mem_take_snoc (p := fun x => x.length ≤ 300) hlt HAll.out)
      obtain ⟨x, hx⟩ : ∃ x, l[i] = x := ⟨_, rfl⟩
      rw [hx] at hq hxm HM
      unfold maxLen at hxm
      have hi0 : (0 : Int) ≤ i := by omega
      have hi1 : (i : Int) < (l.length : Int) := by omega
      clear hx hg
      by_cases h300 : 300 < x.length
      · go_wp2_with fail
        refine (awake_any _).mono ?_
        rintro e w1 ⟨rfl, hb1⟩
        go_wp2
        go_ret
        exact ⟨rfl, hb1⟩
      · go_wp2
        go_round
        case rel => exact ⟨i + 1, by go_num, by omega, HM.out (by omega)⟩
        case measure => simp [intOf]; omega
    · have hi' : i = l.length := by omega
      have hall : ∀ x ∈ l, x.length ≤ 300 := by
        have := HAll.out
        rw [hi', List.take_length] at this
        exact this
      have hfl := flat_le l 300 hall
      have hfl2 : l.flatten.length ≤ 6000 := by omega
      have HS1 := Lib.hid fun w hv => seq_any l (.slice a0 l.length c0) w hv (by omega) (by omega)
      have HS2 := Lib.hid fun w hv => rseq_any l (.slice a0 l.length c0) w hv (by omega) (by omega)
      clear hall hfl HAll
      subst hi'
      go_wp2
      go_loopw [8, 9] (fun v8 v9 wr => ∃ j : Nat, v9 = .int .i64 j ∧ j ≤ bs.length ∧ wr.ownsRow w.heap.size 3 1 v8 j (ic ((bs.map UInt8.toNat).take j)) ∧ Below w.heap.size w wr) (fun _ v9 _ => bs.length - (intOf v9).toNat)
      case atStart => exact ⟨0, rfl, Nat.zero_le _, World.ownsRow_nil _ _ _ _, Below.refl _ _⟩
      case round =>
        obtain ⟨j, rfl, hj, hown, hbel⟩ := hrel
        obtain ⟨oa, oc, rfl⟩ := ownsRow_slice hown
        by_cases hlt2 : j < bs.length
        · obtain ⟨g, o, rfl, hg, hq⟩ := HB.out j hlt2
          have hc0 := (hbel.cell (p := ⟨g, o + j, none⟩) hg).trans hq
          have hset : ic ((bs.map UInt8.toNat).take (j + 1)) = ic ((bs.map UInt8.toNat).take j) ++ [.int .i64 (bs[j].toNat : Nat)] := by
            exact ic_take bs j hlt2
          obtain ⟨u, hu⟩ : ∃ u, bs[j] = u := ⟨_, rfl⟩
          rw [hu] at hc0 hset
          have hub := u.toNat_lt
          have HSet := Lib.hid hset
          have hi0 : (0 : Int) ≤ j := by omega
          have hi1 : (j : Int) < (bs.length : Int) := by omega
          clear hq hg hu hset
          go_wp2_with (at_builtin; refine wpList_pushg rfl (.tmp 51) (.tmp 57) 30 3 rfl w.heap.size 1 8 (.int .i64 0) Try.info3 Try.underlying30 rfl (by decide) [.int .i64 (u.toNat : Nat)] rfl (by simp [Value.oneCell']) (.slice oa j oc) j (ic ((bs.map UInt8.toNat).take j)) rfl _ rfl rfl hown (by unfold maxLen; omega) (by omega) hbel.size ?_)
          intro v2 w4 hown4 hb4
          rw [← HSet.out] at hown4
          have HO4 := Lib.hid hown4
          have hb4' := hbel.trans hb4
          clear hown4 hown hc0 hb4 hbel
          go_wp2
          go_roundw
          case rel => exact ⟨j + 1, by go_num, by omega, HO4.out, hb4'⟩
          case measure => simp [intOf]; omega
        · have hj' : j = bs.length := by omega
          have hints : IntAt wr (.slice oa j oc) (bs.map UInt8.toNat) := by
            have ho := hown
            rw [List.take_of_length_le (by simp; omega), show j = (bs.map UInt8.toNat).length by simpa using hj'] at ho
            have := intAt_owns ho
            rw [← show j = (bs.map UInt8.toNat).length by simpa using hj'] at this
            exact this
          obtain ⟨B, e, hp⟩ : ∃ B e, pa s.data.toList (bs.map UInt8.toNat) = (B, e) := ⟨_, _, rfl⟩
          have HP1 := Lib.hid fun w hts => parts_any s (.slice oa j oc) (bs.map UInt8.toNat) w (by unfold maxLen; omega) hts (by simp; omega) B e hp
          have HP2 := Lib.hid fun w hts => rparts_any s (.slice oa j oc) (bs.map UInt8.toNat) w (by unfold maxLen; omega) hts (by simp; omega) B e hp
          have hB := pa_len _ _ _ _ hp
          have HInts := Lib.hid hints
          clear hp hints hown hj'
          go_wp2_with fail
          refine (HS1.out _ (strAt_below HV.out hbel)).mono ?_
          rintro en w1 ⟨rfl, hb1⟩
          have hi1 := intAt_below HInts.out hb1
          have hb1' := hbel.trans (hb1.mono hbel.size)
          have HI1 := Lib.hid hi1
          clear hb1 hbel hi1 HInts
          go_wp2_with fail
          refine (HS2.out _ (strAt_below HV.out hb1')).mono ?_
          rintro en w2 ⟨rfl, hb2⟩
          have hi2 := intAt_below HI1.out hb2
          have hb2' := hb1'.trans (hb2.mono hb1'.size)
          have HI2 := Lib.hid hi2
          clear hb2 hb1' hi2 HI1
          go_wp2_with fail
          refine (HP1.out _ HI2.out).mono ?_
          rintro en w3 ⟨v3, rfl, ho3, hb3⟩
          have HI3 := Lib.hid (intAt_below HI2.out hb3)
          have HU3 := Lib.hid (strU_owns ho3)
          have hb3' := hb2'.trans (hb3.mono hb2'.size)
          clear hb3 hb2' ho3 HI2
          go_wp2_with fail
          refine (HP2.out _ HI3.out).mono ?_
          rintro en w4 ⟨v4, rfl, ho4, hb4⟩
          have HU4 := Lib.hid (strU_below HU3.out hb4)
          have HU5 := Lib.hid (strU_owns ho4)
          have hb4' := hb3'.trans (hb4.mono hb3'.size)
          clear hb4 hb3' ho4 HI3
          go_wp2_with fail
          refine (texts_any B v3 v4 _ HU4.out HU5.out hB).mono ?_
          rintro en w5 ⟨rfl, n, rfl⟩
          have hb5' := below_dn hb4' n
          generalize w4.drewN n = w5 at hb5' ⊢
          go_wp2_with fail
          refine (awake_any _).mono ?_
          rintro en w6 ⟨rfl, hb6⟩
          go_wp2
          go_ret
          exact ⟨rfl, hb5'.trans (hb6.mono hb5'.size)⟩

theorem tparts_walk (v0 : Value) (l : List (List UInt8)) (s : ByteArray) (v2 : Value) (bs : List UInt8) (w : World) (hv : StrAt w v0 l) (hn : l.length ≤ maxLen) (hl : ∀ x ∈ l, x.length ≤ maxLen) (hs : s.size ≤ maxLen) (hbs : ByteAt w v2 bs) (hbn : bs.length ≤ maxLen) :
    Calls Try.prog 4 #[v0, .string s, v2] w fun e w' => e = .returned (.bool true) ∧ Below w.heap.size w w' := by
  obtain ⟨a0, c0, rfl⟩ : ∃ a c, v0 = .slice a l.length c := by
    rcases hv with ⟨rfl, a, c, rfl⟩ | ⟨_, g, o, c, rfl, _⟩
    · exact ⟨a, c, rfl⟩
    · exact ⟨_, c, rfl⟩
  obtain ⟨a2, c2, rfl⟩ : ∃ a c, v2 = .slice a bs.length c := by
    obtain ⟨a, c, h, _⟩ := hbs; exact ⟨a, c, h⟩
  by_cases h : 20 < l.length ∨ 1000 < s.size ∨ 20 < bs.length
  · exact tparts_asleep a0 c0 _ s a2 c2 _ w hn hs hbn h
  · exact tparts_awake a0 c0 l s a2 c2 bs w hv hl hbs (by omega) (by omega) (by omega)
end Go.Proofs.Ytkjmgpannjnlfaa
