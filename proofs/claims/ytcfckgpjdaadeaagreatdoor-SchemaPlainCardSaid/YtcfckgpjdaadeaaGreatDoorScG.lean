/- The document's names of all types, rising. -/
import Derived.Test.YtcfckgpjdaadeaaGreatDoorScP
import Derived.Test.YtcfckgpjdaadeaaGreatDoorScAB
namespace Go.Proofs.YtcfckgpjdaadeaaGreatDoor
set_option linter.unusedSimpArgs false
set_option linter.unusedVariables false
open Go Go.RowKit Go.Proofs.BerK Go.Proofs.MemK Go.Proofs.UtfK

theorem tw_lt {α : Type} (p : α → Bool) : ∀ (l : List α) (k : Nat) (h : k < (l.takeWhile p).length) (hk : k < l.length), p l[k] = true := by
  intro l
  induction l with
  | nil => intro k h hk; simp at hk
  | cons x l ih =>
    intro k h hk
    cases hx : p x
    · simp [List.takeWhile, hx] at h
    · cases k with
      | zero => simpa using hx
      | succ k =>
        simp only [List.takeWhile, hx, List.length_cons] at h
        simpa using ih k (by omega) (by simpa using hk)
theorem tw_le {α : Type} (p : α → Bool) (l : List α) : (l.takeWhile p).length ≤ l.length := by
  induction l with
  | nil => simp
  | cons x l ih => cases hx : p x <;> simp [List.takeWhile, hx]; exact ih
theorem tw_at {α : Type} (p : α → Bool) : ∀ (l : List α) (hk : (l.takeWhile p).length < l.length), p l[(l.takeWhile p).length] = false := by
  intro l
  induction l with
  | nil => intro h; simp at h
  | cons x l ih =>
    intro hk
    cases hx : p x
    · simp [List.takeWhile, hx]
    · have h2 : (l.takeWhile p).length < l.length := by simpa [List.takeWhile, hx] using hk
      have := ih h2
      simp only [List.takeWhile, hx, List.length_cons, List.getElem_cons_succ]
      exact this
theorem ins_k (l : List (List UInt8)) (s : List UInt8) : insN l s = l.take (l.takeWhile (fun x => ltB x s)).length ++ s :: l.drop (l.takeWhile (fun x => ltB x s)).length :=
  ins_at _ (tw_le _ _) (fun j hj h => tw_lt _ l j h hj) (fun h => tw_at _ l h)
theorem lt9_t {a b : List UInt8} (h : ltB a b = true) : Op.bytesLess a b = true := by rw [less_ltB]; exact h
theorem lt9_f {a b : List UInt8} (h : ltB a b = false) : Op.bytesLess a b = false := by rw [less_ltB]; exact h
theorem chg_nil9c {w w' : World} {n c : Nat} (h : Chg (fun k => some k = (Value.slice none n c).ownBlock) w w') : Below w.heap.size w w' := h.toBelow (Nat.le_refl _) (fun k _ hk => by cases hk)
theorem rd_take9 {w : World} {B : Nat} {e : TypeId} {g n cap : Nat} {O : List (List UInt8)} (h : w.ownsRow B e 1 (.slice (some ⟨g, 0, none⟩) n cap) n (sc O)) (k : Nat) (hk : k ≤ n) : RdRow w 1 (.slice (some ⟨g, 0, none⟩) k cap) k (sc (O.take k)) := by
  have := rdRow_take h k hk
  rw [Nat.mul_one] at this
  unfold sc at this ⊢
  rw [List.map_take]; exact this
theorem rd_drop9 {w : World} {B : Nat} {e : TypeId} {g n cap : Nat} {O : List (List UInt8)} (h : w.ownsRow B e 1 (.slice (some ⟨g, 0, none⟩) n cap) n (sc O)) (k c : Nat) (hk : k ≤ n) : RdRow w 1 (.slice (some ⟨g, k, none⟩) (n - k) c) (n - k) (sc (O.drop k)) := by
  have := rdRow_drop h k c hk
  rw [Nat.mul_one] at this
  unfold sc at this ⊢
  rw [List.map_drop]; exact this
theorem rd_all9 {w : World} {ad : Addr} {O : List (List UInt8)} (c k m : Nat) (hk : k = O.length) (hm : m = 0) : RdRow w 1 (.slice (some ad) m c) (O.length - k) (sc (O.drop k)) := by
  subst hk hm
  rw [List.drop_length, Nat.sub_self]
  exact ⟨by simp [sc], .inr ⟨_, _, rfl, fun j u hj => by simp [sc] at hj⟩⟩
def NamPost (L : List (List UInt8)) (w : World) (en : Ending) (w' : World) : Prop := ∃ a c, en = .returned (.slice a L.length c) ∧ TxR w' (.slice a L.length c) L ∧ Below w.heap.size w w'
set_option maxHeartbeats 12800000 in
set_option maxRecDepth 100000 in
theorem rnam9_any (T : List Ty) (tv cv : Value) (w : World) (h : TyAt w tv T) (hlT : T.length ≤ 1000000) (hbT : ∀ t ∈ T, t.1.length ≤ 140737488355328) :
    Calls Tryz.prog 20 #[.agg #[tv, cv]] w (NamPost (namL (T.map fun t => lowL t.1)) w) := by
  obtain ⟨ta, tc, rfl, htc⟩ := h
  have HT := Lib.hid htc
  have HBd := Lib.hid hbT
  obtain ⟨NL, hNL⟩ : ∃ NL, (T.map fun t => lowL t.1) = NL := ⟨_, rfl⟩
  rw [hNL]
  have HNL := Lib.hid (show NL.length = T.length ∧ ∀ i (h1 : i < NL.length) (h2 : i < T.length), NL[i] = lowL T[i].1 by subst hNL; simp)
  obtain ⟨n, hn⟩ : ∃ n, T.length = n := ⟨_, rfl⟩
  have HL := Lib.hid hn
  rw [hn] at hlT ⊢
  obtain ⟨W1, hW1⟩ : ∃ W1, w.alloc (.cells #[.slice ta n tc, cv] 32) = W1 := ⟨_, rfl⟩
  have y1 : W1.heap[w.heap.size]? = some (.cells #[.slice ta n tc, cv] 32 (0, 0)) := by rw [← hW1]; exact heap_alloc_new w _
  have hb1 : Below w.heap.size w W1 := by rw [← hW1]; exact (Below.refl _ w).alloc (Nat.le_refl _) _
  have hs1 : W1.heap.size = w.heap.size + 1 := by rw [← hW1]; simp
  have HX := Lib.hid (And.intro y1 (And.intro hb1 hs1))
  have HW1 := Lib.hid hW1
  clear htc hbT hNL hn hW1 y1 hb1 hs1
  go_enter Tryz.func20, Tryz.ntmps20
  go_wp2
  rw [HW1.out]
  go_loopw [3, 4] (fun o v wr => ∃ i : Nat, i ≤ n ∧ v = .int .i64 (i : Nat) ∧ wr.ownsRow (w.heap.size + 1) 9 1 o i (sc (namL (NL.take i))) ∧ Below (w.heap.size + 1) W1 wr) (fun _ v _ => n - (intOf v).toNat)
  case atStart => exact ⟨0, by omega, rfl, World.ownsRow_nil _ _ _ _, Below.refl _ _⟩
  case round =>
    obtain ⟨i, hi, rfl, hown, hb⟩ := hrel
    have hsz1 := HX.out.2.2
    have hsr := hb.size
    have x1 := obj_below HX.out.1 hb (by omega)
    have hbw := HX.out.2.1.trans (hb.mono (by omega))
    obtain ⟨b0, b1⟩ := obj2s x1
    have hOl : (namL (NL.take i)).length = i := by rw [namL_length, List.length_take, HNL.out.1, HL.out]; omega
    by_cases hlt : i < n
    · have hil : (i : Int) < (n : Int) := by omega
      have him : i < T.length := by rw [HL.out]; exact hlt
      have hiN : i < NL.length := by rw [HNL.out.1]; exact him
      obtain ⟨g, o, rfl, hg, e0w, _, _⟩ := HT.out i him
      have e0 := (hbw.cell (p := ⟨g, _, none⟩) hg).trans e0w
      have hbd := HBd.out _ (List.getElem_mem him)
      have hnl := HNL.out.2 i hiN him
      obtain ⟨nm, hnm⟩ : ∃ x, T[i].1 = x := ⟨_, rfl⟩
      rw [hnm] at e0 hbd hnl
      have HLo := Lib.hid (fun w => show Calls Tryz.prog 39 #[.string ⟨nm.toArray⟩] w (StrPost (lowL nm) w) from rlow5_any ⟨nm.toArray⟩ hbd w)
      obtain ⟨X, hX⟩ : ∃ x, lowL nm = x := ⟨_, rfl⟩
      rw [hX] at HLo hnl
      have HSn := Lib.hid (show namL (NL.take (i + 1)) = insN (namL (NL.take i)) X by rw [List.take_succ_eq_append_getElem hiN, namL_snoc, hnl])
      obtain ⟨O, hO⟩ : ∃ O, namL (NL.take i) = O := ⟨_, rfl⟩
      rw [hO] at HSn hown hOl
      have HI := Lib.hid (And.intro hown (And.intro hb hOl))
      obtain ⟨oa, oc, rfl⟩ := ownsRow_slice hown
      clear hown hb hbw e0w hnm hX hO hnl hbd x1
      go_wp2_with fail
      refine (HLo.out _).mono ?_
      rintro en w5 ⟨rfl, hb5⟩
      have hown5 := ownsRow_below HI.out.1 hb5
      have hB5 := HI.out.2.1.trans (hb5.mono (by omega))
      have HB5 := Lib.hid (And.intro hown5 hB5)
      have hs5 := hb5.size
      have HK0 := Lib.hid (ins_k O X)
      have HLt := Lib.hid (fun j h hj => tw_lt (fun x => ltB x X) O j h hj)
      have HAt := Lib.hid (fun h => tw_at (fun x => ltB x X) O h)
      have hKl := tw_le (fun x => ltB x X) O
      obtain ⟨K, hK⟩ : ∃ K, (O.takeWhile (fun x => ltB x X)).length = K := ⟨_, rfl⟩
      rw [hK] at hKl
      have HKe := Lib.hid hK
      rw [hK] at HK0
      clear hb5 hB5 b0 b1 e0 hK
      rcases hown5.2 with ⟨hv, h0⟩ | ⟨g2, cap, cur, hv, hB2, hg2, hnc, _⟩
      · injection hv with hv1 hv2 hv3
        subst hv1 hv3
        have hO0 : O = [] := List.eq_nil_of_length_eq_zero (by omega)
        have hi0 : i = 0 := h0
        subst hi0
        have HO0 := Lib.hid hO0
        have hK0 : K = 0 := by omega
        subst hK0
        have HK := Lib.hid HK0.out
        clear hown5 hO0 hv2
        go_wp2
        go_loopw [6] (fun v wz => v = .int .i64 0 ∧ Below w5.heap.size w5 wz) (fun _ _ => 0)
        case atStart => exact ⟨rfl, Below.refl _ _⟩
        case round =>
          obtain ⟨rfl, hb8⟩ := hrel
          have hzr : w.heap.size + 1 ≤ wr.heap.size := by have := hb8.size; omega
          have HBr := Lib.hid (HB5.out.2.trans (hb8.mono (by omega)))
          have hOl0 : O.length = 0 := HI.out.2.2
          have HK := Lib.hid (show insN O X = [X] by rw [HO0.out]; rfl)
          have hlt0 : ¬ ((0 : Int) < 0) := by omega
          clear hb8
          go_wp2_with (at_builtin; refine wpList_appendr rfl (.tmp 36) (.tmp 39) 38 9 rfl wr.heap.size 1 16 (.string ByteArray.empty) Tryz.scinfo9 Tryz.underlying38 rfl (by decide) (.slice none 0 0) 0 [] rfl (World.ownsRow_nil _ _ _ _) _ 0 ([] : List Value) rfl ?c3q1 (fun u hu => by cases hu) ?c1q1 ?c2q1 (Nat.le_refl _) ?_)
          case c3q1 => exact rdRow_nil _ _
          try (case c1q1 => unfold maxLen; omega)
          try (case c2q1 => omega)
          intro v1 w6 g1 g2 g3
          obtain ⟨a1, z1, rfl⟩ := ownsRow_slice g1
          have g1 : w6.ownsRow wr.heap.size 9 1 (.slice a1 0 z1) 0 ([] : List Value) := by simpa using g1
          have H6 := Lib.hid (And.intro g1 (chg_nil9c g2))
          clear g1 g2 g3
          go_wp2_with (at_builtin; refine wpList_pushm rfl (.tmp 41) (.tmp 43) 38 9 rfl wr.heap.size 1 16 (.string ByteArray.empty) Tryz.scinfo9 Tryz.underlying38 rfl (by decide) 1 [.string ⟨X.toArray⟩] rfl ?c0q2 (.slice a1 0 z1) 0 ([] : List Value) rfl _ rfl ?c3q2 H6.out.1 ?c1q2 ?c2q2 H6.out.2.size ?_)
          case c0q2 => intro u hu; simp at hu; subst hu; rfl
          try (case c1q2 => unfold maxLen; omega)
          try (case c2q2 => omega)
          case c3q2 => first | rfl | simp
          intro v2 w7 g1 g2
          obtain ⟨a2, z2, rfl⟩ := ownsRow_slice g1
          have H7 := Lib.hid (And.intro g1 (H6.out.2.trans g2))
          clear g1 g2
          go_wp2_with (at_builtin; refine wpList_appendr rfl (.tmp 45) (.tmp 48) 38 9 rfl wr.heap.size 1 16 (.string ByteArray.empty) Tryz.scinfo9 Tryz.underlying38 rfl (by decide) (.slice a2 (0 + 1) z2) (0 + 1) (([] : List Value) ++ [.string ⟨X.toArray⟩]) rfl H7.out.1 _ 0 ([] : List Value) rfl ?c3q3 (fun u hu => by cases hu) ?c1q3 ?c2q3 H7.out.2.size ?_)
          case c3q3 => exact rdRow_nil _ _
          try (case c1q3 => unfold maxLen; omega)
          try (case c2q3 => omega)
          intro v3 w8 g1 g2 g3
          obtain ⟨a3, z3, rfl⟩ := ownsRow_slice g1
          have hb8 := below_chg H7.out.2 H7.out.2.size H7.out.1 g2
          have hfin : ([] : List Value) ++ .string ⟨X.toArray⟩ :: ([] : List Value) = sc (insN O X) := by rw [HK.out]; simp [sc, *]
          have hg : w8.ownsRow wr.heap.size 9 1 (.slice a3 (0 + 1) z3) (0 + 1) (sc (insN O X)) := by
            have hq : 0 + 1 + 0 = 0 + 1 := by omega
            have hq2 : 0 + 1 + (0 - 0) = 0 + 1 := by omega
            rw [← hfin]
            simpa [hq, hq2] using g1
          have hq : 0 + 1 + 0 = 0 + 1 := by omega
          have hq2 : 0 + 1 + (0 - 0) = 0 + 1 := by omega
          first | rw [hq2] | rw [hq] | skip
          have hsn := HSn.out
          have H8 := Lib.hid (And.intro (show w8.ownsRow (w.heap.size + 1) 9 1 (.slice a3 (0 + 1) z3) (0 + 1) (sc (namL (NL.take (0 + 1)))) by rw [hsn]; exact ownsRow_base hg hzr) (HBr.out.trans (hb8.mono hzr)))
          clear g1 g2 g3 hb8 hfin hq hq2 hg hsn
          go_wp2
          exact ⟨⟨0 + 1, by omega, by first | go_num | rfl | simp, H8.out.1, H8.out.2⟩, by simp [intOf]; omega⟩
      · injection hv with hv1 hv2 hv3
        subst hv1 hv3
        have HO5 := Lib.hid hown5
        have hgl := obj_lt hg2
        clear hown5 hg2 hv2
        go_wp2
        go_loopw [6] (fun v wz => ∃ k : Nat, k ≤ K ∧ v = .int .i64 (k : Nat) ∧ Below w5.heap.size w5 wz) (fun v _ => K - (intOf v).toNat)
        case atStart => exact ⟨0, by omega, rfl, Below.refl _ _⟩
        case round =>
          obtain ⟨k, hk, rfl, hb8⟩ := hrel
          have hOl2 := HI.out.2.2
          have hzr : w.heap.size + 1 ≤ wr.heap.size := by have := hb8.size; omega
          have hcl : ∀ j (hj : j < O.length), wr.cell? ⟨g2, j, none⟩ = some (.string ⟨O[j].toArray⟩) := fun j hj => (hb8.cell (p := ⟨g2, j, none⟩) hgl).trans ((HO5.out.cellAt _ (by omega)).trans (by simp [sc, hj]))
          have HBr := Lib.hid (HB5.out.2.trans (hb8.mono (by omega)))
          have HOr := Lib.hid (ownsRow_below HO5.out hb8)
          by_cases hkK : k < K
          · have hkO : k < O.length := by omega
            have hkl : (k : Int) < (i : Int) := by omega
            have d1 := hcl k hkO
            have hls := lt9_t (HLt.out k (by rw [HKe.out]; exact hkK) hkO)
            obtain ⟨OT, hOT⟩ : ∃ OT, O[k] = OT := ⟨_, rfl⟩
            rw [hOT] at d1 hls
            have HB8 := Lib.hid hb8
            clear hb8 hOT hcl
            go_wp2
            exact ⟨⟨k + 1, by omega, by go_num, HB8.out⟩, by simp [intOf]; omega⟩
          · obtain rfl : k = K := by omega
            have HK := Lib.hid HK0.out
            by_cases hkO : k < O.length
            · have hkl : (k : Int) < (i : Int) := by omega
              have d1 := hcl k hkO
              have hls : Op.bytesLess O[k] X = false := by
                have h2 := HKe.out
                subst h2
                exact lt9_f (HAt.out hkO)
              have hck : ¬ oc = k := by omega
              obtain ⟨OT, hOT⟩ : ∃ OT, O[k] = OT := ⟨_, rfl⟩
              rw [hOT] at d1 hls
              clear hb8 hOT hcl
              go_wp2_with (at_builtin; refine wpList_appendr rfl (.tmp 36) (.tmp 39) 38 9 rfl wr.heap.size 1 16 (.string ByteArray.empty) Tryz.scinfo9 Tryz.underlying38 rfl (by decide) (.slice none 0 0) 0 [] rfl (World.ownsRow_nil _ _ _ _) _ k (sc (O.take k)) rfl ?c3q4 (sc_one_cell _) ?c1q4 ?c2q4 (Nat.le_refl _) ?_)
              case c3q4 => exact rd_take9 HOr.out k (by omega)
              try (case c1q4 => unfold maxLen; omega)
              try (case c2q4 => omega)
              intro v1 w6 g1 g2 g3
              obtain ⟨a1, z1, rfl⟩ := ownsRow_slice g1
              have g1 : w6.ownsRow wr.heap.size 9 1 (.slice a1 k z1) k (sc (O.take k)) := by simpa using g1
              have H6 := Lib.hid (And.intro g1 (chg_nil9c g2))
              clear g1 g2 g3
              go_wp2_with (at_builtin; refine wpList_pushm rfl (.tmp 41) (.tmp 43) 38 9 rfl wr.heap.size 1 16 (.string ByteArray.empty) Tryz.scinfo9 Tryz.underlying38 rfl (by decide) 1 [.string ⟨X.toArray⟩] rfl ?c0q5 (.slice a1 k z1) k (sc (O.take k)) rfl _ rfl ?c3q5 H6.out.1 ?c1q5 ?c2q5 H6.out.2.size ?_)
              case c0q5 => intro u hu; simp at hu; subst hu; rfl
              try (case c1q5 => unfold maxLen; omega)
              try (case c2q5 => omega)
              case c3q5 => first | rfl | simp
              intro v2 w7 g1 g2
              obtain ⟨a2, z2, rfl⟩ := ownsRow_slice g1
              have H7 := Lib.hid (And.intro g1 (H6.out.2.trans g2))
              clear g1 g2
              go_wp2_with (at_builtin; refine wpList_appendr rfl (.tmp 45) (.tmp 48) 38 9 rfl wr.heap.size 1 16 (.string ByteArray.empty) Tryz.scinfo9 Tryz.underlying38 rfl (by decide) (.slice a2 (k + 1) z2) (k + 1) ((sc (O.take k)) ++ [.string ⟨X.toArray⟩]) rfl H7.out.1 _ (O.length - k) (sc (O.drop k)) rfl ?c3q6 (sc_one_cell _) ?c1q6 ?c2q6 H7.out.2.size ?_)
              case c3q6 => first | (rw [hOl2]; exact rd_drop9 (ownsRow_below HOr.out H7.out.2) k _ (by omega)) | exact rd_drop9 (ownsRow_below HOr.out H7.out.2) k _ (by omega)
              try (case c1q6 => unfold maxLen; omega)
              try (case c2q6 => omega)
              intro v3 w8 g1 g2 g3
              obtain ⟨a3, z3, rfl⟩ := ownsRow_slice g1
              have hb8 := below_chg H7.out.2 H7.out.2.size H7.out.1 g2
              have hfin : (sc (O.take k)) ++ .string ⟨X.toArray⟩ :: (sc (O.drop k)) = sc (insN O X) := by rw [HK.out]; simp [sc, *]
              have hg : w8.ownsRow wr.heap.size 9 1 (.slice a3 (i + 1) z3) (i + 1) (sc (insN O X)) := by
                have hq : k + 1 + (O.length - k) = i + 1 := by omega
                have hq2 : k + 1 + (i - k) = i + 1 := by omega
                rw [← hfin]
                simpa [hq, hq2] using g1
              have hq : k + 1 + (O.length - k) = i + 1 := by omega
              have hq2 : k + 1 + (i - k) = i + 1 := by omega
              first | rw [hq2] | rw [hq] | skip
              have hsn := HSn.out
              have H8 := Lib.hid (And.intro (show w8.ownsRow (w.heap.size + 1) 9 1 (.slice a3 (i + 1) z3) (i + 1) (sc (namL (NL.take (i + 1)))) by rw [hsn]; exact ownsRow_base hg hzr) (HBr.out.trans (hb8.mono hzr)))
              clear g1 g2 g3 hb8 hfin hq hq2 hg hsn
              go_wp2
              exact ⟨⟨i + 1, by omega, by first | go_num | rfl | simp, H8.out.1, H8.out.2⟩, by simp [intOf]; omega⟩
            · have hkl : ¬ ((k : Int) < (i : Int)) := by omega
              obtain rfl : k = i := by omega
              clear hb8 hcl
              have hck : k = oc ∨ ¬ oc = k := by omega
              rcases hck with hck | hck
              · subst hck
                go_wp2_with (at_builtin; refine wpList_appendr rfl (.tmp 36) (.tmp 39) 38 9 rfl wr.heap.size 1 16 (.string ByteArray.empty) Tryz.scinfo9 Tryz.underlying38 rfl (by decide) (.slice none 0 0) 0 [] rfl (World.ownsRow_nil _ _ _ _) _ k (sc (O.take k)) rfl ?c3q7 (sc_one_cell _) ?c1q7 ?c2q7 (Nat.le_refl _) ?_)
                case c3q7 => exact rd_take9 HOr.out k (by omega)
                try (case c1q7 => unfold maxLen; omega)
                try (case c2q7 => omega)
                intro v1 w6 g1 g2 g3
                obtain ⟨a1, z1, rfl⟩ := ownsRow_slice g1
                have g1 : w6.ownsRow wr.heap.size 9 1 (.slice a1 k z1) k (sc (O.take k)) := by simpa using g1
                have H6 := Lib.hid (And.intro g1 (chg_nil9c g2))
                clear g1 g2 g3
                go_wp2_with (at_builtin; refine wpList_pushm rfl (.tmp 41) (.tmp 43) 38 9 rfl wr.heap.size 1 16 (.string ByteArray.empty) Tryz.scinfo9 Tryz.underlying38 rfl (by decide) 1 [.string ⟨X.toArray⟩] rfl ?c0q8 (.slice a1 k z1) k (sc (O.take k)) rfl _ rfl ?c3q8 H6.out.1 ?c1q8 ?c2q8 H6.out.2.size ?_)
                case c0q8 => intro u hu; simp at hu; subst hu; rfl
                try (case c1q8 => unfold maxLen; omega)
                try (case c2q8 => omega)
                case c3q8 => first | rfl | simp
                intro v2 w7 g1 g2
                obtain ⟨a2, z2, rfl⟩ := ownsRow_slice g1
                have H7 := Lib.hid (And.intro g1 (H6.out.2.trans g2))
                clear g1 g2
                go_wp2_with (at_builtin; refine wpList_appendr rfl (.tmp 45) (.tmp 48) 38 9 rfl wr.heap.size 1 16 (.string ByteArray.empty) Tryz.scinfo9 Tryz.underlying38 rfl (by decide) (.slice a2 (k + 1) z2) (k + 1) ((sc (O.take k)) ++ [.string ⟨X.toArray⟩]) rfl H7.out.1 _ (O.length - k) (sc (O.drop k)) rfl ?c3q9 (sc_one_cell _) ?c1q9 ?c2q9 H7.out.2.size ?_)
                case c3q9 => exact rd_all9 _ k _ (by omega) (by omega)
                try (case c1q9 => unfold maxLen; omega)
                try (case c2q9 => omega)
                intro v3 w8 g1 g2 g3
                obtain ⟨a3, z3, rfl⟩ := ownsRow_slice g1
                have hb8 := below_chg H7.out.2 H7.out.2.size H7.out.1 g2
                have hfin : (sc (O.take k)) ++ .string ⟨X.toArray⟩ :: (sc (O.drop k)) = sc (insN O X) := by rw [HK.out]; simp [sc, *]
                have hg : w8.ownsRow wr.heap.size 9 1 (.slice a3 (k + 1) z3) (k + 1) (sc (insN O X)) := by
                  have hq : k + 1 + (O.length - k) = k + 1 := by omega
                  have hq2 : k + 1 + (k - k) = k + 1 := by omega
                  rw [← hfin]
                  simpa [hq, hq2] using g1
                have hq : k + 1 + (O.length - k) = k + 1 := by omega
                have hq2 : k + 1 + (k - k) = k + 1 := by omega
                first | rw [hq2] | rw [hq] | skip
                have hsn := HSn.out
                have H8 := Lib.hid (And.intro (show w8.ownsRow (w.heap.size + 1) 9 1 (.slice a3 (k + 1) z3) (k + 1) (sc (namL (NL.take (k + 1)))) by rw [hsn]; exact ownsRow_base hg hzr) (HBr.out.trans (hb8.mono hzr)))
                clear g1 g2 g3 hb8 hfin hq hq2 hg hsn
                go_wp2
                exact ⟨⟨k + 1, by omega, by first | go_num | rfl | simp, H8.out.1, H8.out.2⟩, by simp [intOf]; omega⟩
              ·
                go_wp2_with (at_builtin; refine wpList_appendr rfl (.tmp 36) (.tmp 39) 38 9 rfl wr.heap.size 1 16 (.string ByteArray.empty) Tryz.scinfo9 Tryz.underlying38 rfl (by decide) (.slice none 0 0) 0 [] rfl (World.ownsRow_nil _ _ _ _) _ k (sc (O.take k)) rfl ?c3q10 (sc_one_cell _) ?c1q10 ?c2q10 (Nat.le_refl _) ?_)
                case c3q10 => exact rd_take9 HOr.out k (by omega)
                try (case c1q10 => unfold maxLen; omega)
                try (case c2q10 => omega)
                intro v1 w6 g1 g2 g3
                obtain ⟨a1, z1, rfl⟩ := ownsRow_slice g1
                have g1 : w6.ownsRow wr.heap.size 9 1 (.slice a1 k z1) k (sc (O.take k)) := by simpa using g1
                have H6 := Lib.hid (And.intro g1 (chg_nil9c g2))
                clear g1 g2 g3
                go_wp2_with (at_builtin; refine wpList_pushm rfl (.tmp 41) (.tmp 43) 38 9 rfl wr.heap.size 1 16 (.string ByteArray.empty) Tryz.scinfo9 Tryz.underlying38 rfl (by decide) 1 [.string ⟨X.toArray⟩] rfl ?c0q11 (.slice a1 k z1) k (sc (O.take k)) rfl _ rfl ?c3q11 H6.out.1 ?c1q11 ?c2q11 H6.out.2.size ?_)
                case c0q11 => intro u hu; simp at hu; subst hu; rfl
                try (case c1q11 => unfold maxLen; omega)
                try (case c2q11 => omega)
                case c3q11 => first | rfl | simp
                intro v2 w7 g1 g2
                obtain ⟨a2, z2, rfl⟩ := ownsRow_slice g1
                have H7 := Lib.hid (And.intro g1 (H6.out.2.trans g2))
                clear g1 g2
                go_wp2_with (at_builtin; refine wpList_appendr rfl (.tmp 45) (.tmp 48) 38 9 rfl wr.heap.size 1 16 (.string ByteArray.empty) Tryz.scinfo9 Tryz.underlying38 rfl (by decide) (.slice a2 (k + 1) z2) (k + 1) ((sc (O.take k)) ++ [.string ⟨X.toArray⟩]) rfl H7.out.1 _ (O.length - k) (sc (O.drop k)) rfl ?c3q12 (sc_one_cell _) ?c1q12 ?c2q12 H7.out.2.size ?_)
                case c3q12 => exact rd_all9 _ k _ (by omega) (by omega)
                try (case c1q12 => unfold maxLen; omega)
                try (case c2q12 => omega)
                intro v3 w8 g1 g2 g3
                obtain ⟨a3, z3, rfl⟩ := ownsRow_slice g1
                have hb8 := below_chg H7.out.2 H7.out.2.size H7.out.1 g2
                have hfin : (sc (O.take k)) ++ .string ⟨X.toArray⟩ :: (sc (O.drop k)) = sc (insN O X) := by rw [HK.out]; simp [sc, *]
                have hg : w8.ownsRow wr.heap.size 9 1 (.slice a3 (k + 1) z3) (k + 1) (sc (insN O X)) := by
                  have hq : k + 1 + (O.length - k) = k + 1 := by omega
                  have hq2 : k + 1 + (k - k) = k + 1 := by omega
                  rw [← hfin]
                  simpa [hq, hq2] using g1
                have hq : k + 1 + (O.length - k) = k + 1 := by omega
                have hq2 : k + 1 + (k - k) = k + 1 := by omega
                first | rw [hq2] | rw [hq] | skip
                have hsn := HSn.out
                have H8 := Lib.hid (And.intro (show w8.ownsRow (w.heap.size + 1) 9 1 (.slice a3 (k + 1) z3) (k + 1) (sc (namL (NL.take (k + 1)))) by rw [hsn]; exact ownsRow_base hg hzr) (HBr.out.trans (hb8.mono hzr)))
                clear g1 g2 g3 hb8 hfin hq hq2 hg hsn
                go_wp2
                exact ⟨⟨k + 1, by omega, by first | go_num | rfl | simp, H8.out.1, H8.out.2⟩, by simp [intOf]; omega⟩
    · obtain rfl : i = n := by omega
      have hall : NL.take i = NL := List.take_of_length_le (by rw [HNL.out.1, HL.out]; exact Nat.le_refl _)
      rw [hall] at hown hOl
      obtain ⟨oa, oc, rfl⟩ := ownsRow_slice hown
      have htx : TxR wr (.slice oa (namL NL).length oc) (namL NL) := txR_owns (by rw [hOl]; exact hown)
      have H := Lib.hid (And.intro htx (And.intro hbw hOl))
      clear hown hb hbw htx hall x1 hOl
      go_wp2
      go_ret
      have h1 := H.out.1
      rw [H.out.2.2] at h1
      exact ⟨oa, oc, by rw [H.out.2.2]; rfl, by rw [H.out.2.2]; exact h1, H.out.2.1⟩
end Go.Proofs.YtcfckgpjdaadeaaGreatDoor
