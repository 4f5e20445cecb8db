/- The framer's methods: New, Feed, Next, Err, Left, and what they answer on nil. -/
import Derived.Test.YtgihggaokamonaaFrameC
namespace Go.Proofs.Ytgihggaokamonaa
open Go Go.RowKit Go.Proofs.BerM Go.Proofs.BerK Go.Proofs.MemK
set_option linter.unusedVariables false

/-! ### New -/
set_option maxHeartbeats 800000 in
set_option maxRecDepth 100000 in
theorem new_err (q : Int) (w : World) (h : q < 1 ∨ 65536 < q) :
    Calls Try.prog 7 #[.int .i64 q] w fun en w' => en = .returned (.tuple #[.pointer none, .int .i64 1]) ∧ w' = w := by
  by_cases h1 : q < 1
  · go_enter Try.func7, Try.ntmps7
    go_wp2
    go_ret2
    exact ⟨rfl, rfl⟩
  · have h2 : 65536 < q := by omega
    have h3 : 1 ≤ q := by omega
    clear h h1
    go_enter Try.func7, Try.ntmps7
    go_wp2
    go_ret2
    exact ⟨rfl, rfl⟩
/-- What New hands back. -/
def NewPost (B most : Nat) (w : World) (en : Ending) (w' : World) : Prop :=
  en = .returned (.tuple #[.pointer (some ⟨w.heap.size, 0, none⟩), .int .i64 0]) ∧ Fr w' B w.heap.size most ([], 0) none ∧ Below w.heap.size w w' ∧ w'.heap.size = w.heap.size + 1
set_option maxHeartbeats 800000 in
set_option maxRecDepth 100000 in
theorem new_ok (B most : Nat) (w : World) (h1 : 1 ≤ most) (h2 : most ≤ 65536) : Calls Try.prog 7 #[.int .i64 most] w (NewPost B most w) := by
  have h1' : (1 : Int) ≤ (most : Int) := by omega
  have h2' : (most : Int) ≤ 65536 := by omega
  go_enter Try.func7, Try.ntmps7
  go_wp2
  go_ret2
  refine ⟨rfl, ⟨0, .slice none 0 0, ?_, mid_nil _ _ _, rfl, by simp, Nat.zero_le _, by simp, h2, by simp⟩, (Below.refl _ _).alloc (Nat.le_refl _) _, by simp⟩
  exact heap_alloc_new w _

/-! ### Err, Left -/
set_option maxHeartbeats 800000 in
set_option maxRecDepth 100000 in
theorem err_any (B g most : Nat) (x : FS) (r : Option Nat) (w : World) (h : Fr w B g most x r) :
    Calls Try.prog 12 #[.pointer (some ⟨g, 0, none⟩)] w fun en w' => en = .returned (.int .i64 (x.2 : Nat)) ∧ w' = w := by
  obtain ⟨gone, v, ho, hm, hr, hng, hgo, hle, hmo, he⟩ := h
  obtain ⟨_, hc1, _, _⟩ := obj4 ho
  clear ho hm hr hng hgo hle hmo
  go_enter Try.func12, Try.ntmps12
  go_wp2
  go_ret
  exact ⟨rfl, rfl⟩
set_option maxHeartbeats 800000 in
set_option maxRecDepth 100000 in
theorem err_nil (w : World) : Calls Try.prog 12 #[.pointer none] w fun en w' => en = .returned (.int .i64 12) ∧ w' = w := by
  go_enter Try.func12, Try.ntmps12
  go_wp2
  go_ret
  exact ⟨rfl, rfl⟩
set_option maxHeartbeats 800000 in
set_option maxRecDepth 100000 in
theorem left_any (B g most : Nat) (x : FS) (r : Option Nat) (w : World) (h : Fr w B g most x r) :
    Calls Try.prog 13 #[.pointer (some ⟨g, 0, none⟩)] w fun en w' => en = .returned (.int .i64 (x.1.length : Nat)) ∧ w' = w := by
  obtain ⟨gone, v, ho, hm, hr, hng, hgo, hle, hmo, he⟩ := h
  obtain ⟨a, c, rfl⟩ := mid_slice hm
  obtain ⟨_, _, hc2, _⟩ := obj4 ho
  clear ho hm hr hng hgo hmo
  go_enter Try.func13, Try.ntmps13
  go_wp2
  go_ret
  exact ⟨rfl, rfl⟩
set_option maxHeartbeats 800000 in
set_option maxRecDepth 100000 in
theorem left_nil (w : World) : Calls Try.prog 13 #[.pointer none] w fun en w' => en = .returned (.int .i64 0) ∧ w' = w := by
  go_enter Try.func13, Try.ntmps13
  go_wp2
  go_ret
  exact ⟨rfl, rfl⟩

/-! ### Feed -/
set_option maxHeartbeats 800000 in
set_option maxRecDepth 100000 in
theorem feed_nil (s : ByteArray) (w : World) : Calls Try.prog 8 #[.pointer none, .string s] w fun en w' => en = .returned (.tuple #[]) ∧ w' = w := by
  go_enter Try.func8, Try.ntmps8
  go_wp2
  refine bodyPost_ret (v := .tuple #[]) (by simp [results, Try.results8, go_sem]) rfl ?_
  exact ⟨rfl, rfl⟩
/-- What Feed hands back. -/
def FeedPost (B g most : Nat) (x : FS) (r : Option Nat) (w : World) (en : Ending) (w' : World) : Prop :=
  en = .returned (.tuple #[]) ∧ ∃ r', Fr w' B g most x r' ∧ (r' = r ∨ ∃ k, r' = some k ∧ w.heap.size ≤ k) ∧ Chg (fun k => k = g ∨ some k = r) w w'
set_option maxHeartbeats 800000 in
set_option maxRecDepth 100000 in
theorem feed_err (B g most : Nat) (x : FS) (r : Option Nat) (w : World) (h : Fr w B g most x r) (s : ByteArray) (hx : x.2 ≠ 0) :
    Calls Try.prog 8 #[.pointer (some ⟨g, 0, none⟩), .string s] w (FeedPost B g most (fFeed most x s.data.toList) r w) := by
  have hv : fFeed most x s.data.toList = x := by rw [fFeed, if_pos hx]
  rw [hv]
  have H := Lib.hid h
  obtain ⟨gone, v, ho, hm, hr, hng, hgo, hle, hmo, he⟩ := h
  obtain ⟨_, hc1, _, _⟩ := obj4 ho
  have hq : ((x.2 : Int) != 0) = true := by rw [bne_iff_ne]; omega
  clear ho hm hr hng hgo hle hmo hv hx
  go_enter Try.func8, Try.ntmps8
  go_wp2
  refine bodyPost_ret (v := .tuple #[]) (by simp [results, Try.results8, go_sem]) rfl ?_
  exact ⟨rfl, r, H.out, .inl rfl, Chg.refl _ _⟩
theorem set_1 {w : World} {g : Nat} {a b c d : Value} {t : TypeId} (h : w.heap[g]? = some (.cells #[a, b, c, d] t (0, 0))) (b' : Value) :
    (w.setCell ⟨g, 1, none⟩ b').heap[g]? = some (.cells #[a, b', c, d] t (0, 0)) ∧ Chg (fun k => k = g) w (w.setCell ⟨g, 1, none⟩ b') :=
  ⟨obj_set h 1 b', Chg.setCell (S := fun k => k = g) (Chg.refl _ w) (p := ⟨g, 1, none⟩) (fun _ => rfl) _⟩
theorem set_2 {w : World} {g : Nat} {a b c d : Value} {t : TypeId} (h : w.heap[g]? = some (.cells #[a, b, c, d] t (0, 0))) (c' : Value) :
    (w.setCell ⟨g, 2, none⟩ c').heap[g]? = some (.cells #[a, b, c', d] t (0, 0)) ∧ Chg (fun k => k = g) w (w.setCell ⟨g, 2, none⟩ c') :=
  ⟨obj_set h 2 c', Chg.setCell (S := fun k => k = g) (Chg.refl _ w) (p := ⟨g, 2, none⟩) (fun _ => rfl) _⟩
/-- The error is set. -/
theorem fr_set_err {w : World} {B g most : Nat} {l : List UInt8} {e : Nat} {r : Option Nat} (h : Fr w B g most (l, e) r) (e' : Nat) (he : e' ≤ 6) : Fr (w.setCell ⟨g, 1, none⟩ (.int .i64 (e' : Nat))) B g most (l, e') r ∧ Chg (fun k => k = g) w (w.setCell ⟨g, 1, none⟩ (.int .i64 (e' : Nat))) := by
  obtain ⟨gone, v, ho, hm, hr, hng, hgo, hle, hmo, _⟩ := h
  obtain ⟨h1, h2⟩ := set_1 ho (.int .i64 (e' : Nat))
  refine ⟨⟨gone, v, h1, mid_chg hm h2 ?_, hr, hng, hgo, hle, hmo, he⟩, h2⟩
  intro k hk hkg
  subst hkg
  exact hng (by rw [← hr, hk])
theorem fr_drewN {w : World} {B g most : Nat} {x : FS} {r : Option Nat} (h : Fr w B g most x r) (n : Nat) : Fr (w.drewN n) B g most x r :=
  fr_chg h ((Chg.refl (fun _ => False) w).drewN n) id (fun _ _ => id)
set_option maxHeartbeats 800000 in
set_option maxRecDepth 100000 in
theorem feed_ok (B g most : Nat) (l : List UInt8) (r : Option Nat) (w : World) (h : Fr w B g most (l, 0) r) (hB : B ≤ w.heap.size) (s : ByteArray) (hs : l.length + s.size ≤ 1000000) :
    Calls Try.prog 8 #[.pointer (some ⟨g, 0, none⟩), .string s] w (FeedPost B g most (l ++ s.data.toList, tf most (l ++ s.data.toList)) r w) := by
  obtain ⟨i0, hi, hz0, hz1, hzz2⟩ := info_parts Try.info5
  have hgw := fr_lt h
  obtain ⟨gone, v, ho, hm, hr, hng, hgo, hle, hmo, he⟩ := h
  obtain ⟨a, c, rfl⟩ := mid_slice hm
  obtain ⟨hc0, hc1, hc2, hc3⟩ := obj4 ho
  have hz2 := obj_free ho 2
  have HM := Lib.hid hm
  have HO := Lib.hid ho
  have HR := Lib.hid hr
  have HNG := Lib.hid hng
  have HZ1 := Lib.hid hz1
  have HZ2 := Lib.hid hzz2
  have HI := Lib.hid hi
  have HZ0 := Lib.hid hz0
  clear hm ho hi hz0 hz1 hzz2 hr hng
  have hsl : s.data.toList.length = s.size := Array.length_toList
  have HSL := Lib.hid hsl
  clear hsl
  simp only at hgo hle hs
  go_enter Try.func8, Try.ntmps8
  go_wp2_with (at_builtin; refine wpList_append_mid rfl (.tmp 17) (.tmp 18) 39 9 rfl B 5 i0 Try.underlying39 Try.underlying9 HI.out HZ0.out HZ1.out HZ2.out (.slice a l.length c) l rfl HM.out s rfl ?a1 ?a2 hB ?_)
  case a1 => unfold maxLen; omega
  case a2 => omega
  intro v' w1 hm1 hg1 hv1
  obtain ⟨a', c', hv'⟩ := mid_slice hm1
  generalize (l ++ s.data.toList).length = n' at hv'
  subst hv'
  have ho1 := obj_chg HO.out (Chg.ofGrown hg1) (fun h => HNG.out (by rw [← HR.out, ← h]))
  obtain ⟨hd0, hd1, hd2, hd3⟩ := obj4 ho1
  have hy2 := obj_free ho1 2
  obtain ⟨h1, h2⟩ := set_2 ho1 (.slice a' n' c')
  have hne : (Value.slice a' n' c').ownBlock ≠ some g := by
    rcases hv1 with h | h
    · rw [h, HR.out]; exact HNG.out
    · rw [h]; intro h; injection h; omega
  have hm2 := mid_chg hm1 h2 (fun k hk hkg => hne (by rw [hk, hkg]))
  have hll : (l ++ s.data.toList).length ≤ 1000000 := by rw [List.length_append, HSL.out]; omega
  have hfr : Fr (w1.setCell ⟨g, 2, none⟩ (.slice a' n' c')) B g most (l ++ s.data.toList, 0) (Value.slice a' n' c').ownBlock := ⟨gone, .slice a' n' c', h1, hm2, rfl, hne, by simp; omega, hll, hmo, by simp⟩
  have hch : Chg (fun k => k = g ∨ some k = r) w (w1.setCell ⟨g, 2, none⟩ (.slice a' n' c')) :=
    ((Chg.ofGrown hg1).mono (fun k _ hk => .inr (by rw [hk]; exact HR.out))).trans h2 (fun k _ hk => .inl hk)
  have hrr : (Value.slice a' n' c').ownBlock = r ∨ ∃ k, (Value.slice a' n' c').ownBlock = some k ∧ w.heap.size ≤ k := by
    rcases hv1 with h | h
    · exact .inl (h.trans HR.out)
    · exact .inr ⟨_, h, Nat.le_refl _⟩
  have HFR := Lib.hid hfr
  have HCH := Lib.hid hch
  have HRR := Lib.hid hrr
  have HF := Lib.hid (front_any B g most _ _ _ hfr)
  clear hm1 hg1 hv1 ho1 h1 h2 hne hm2 hll hfr hch hrr hc0 hc1 hc2 hc3 hz2
  go_wp2_with fail
  refine HF.out.mono ?_
  rintro en w2 ⟨rfl, n, rfl⟩
  have hfr2 := fr_drewN HFR.out n
  have hch2 := HCH.out.drewN n
  have HFR2 := Lib.hid hfr2
  have HCH2 := Lib.hid hch2
  clear hd0 hd1 hd2 hd3 hy2 hch2 HF HFR HCH
  generalize (w1.setCell ⟨g, 2, none⟩ (.slice a' n' c')).drewN n = w2 at HFR2 HCH2 hfr2 ⊢
  obtain ⟨gone2, v2, ho2, _⟩ := hfr2
  obtain ⟨hc0, hc1, hc2, hc3⟩ := obj4 ho2
  have hz1 := obj_free ho2 1
  clear ho2
  simp only
  generalize ht : tf most (l ++ s.data.toList) = t
  have HT := Lib.hid ht
  clear ht
  go_wp2
  refine bodyPost_ret (v := .tuple #[]) (by simp [results, Try.results8, go_sem]) rfl ?_
  obtain ⟨h1, h2⟩ := fr_set_err HFR2.out t (by rw [← HT.out]; exact tf_le _ _)
  rw [HT.out]
  exact ⟨rfl, _, h1, HRR.out, HCH2.out.trans h2 (fun k _ hk => .inl hk)⟩
theorem feed_any (B g most : Nat) (x : FS) (r : Option Nat) (w : World) (h : Fr w B g most x r) (hB : B ≤ w.heap.size) (s : ByteArray) (hs : x.1.length + s.size ≤ 1000000) :
    Calls Try.prog 8 #[.pointer (some ⟨g, 0, none⟩), .string s] w (FeedPost B g most (fFeed most x s.data.toList) r w) := by
  by_cases hx : x.2 ≠ 0
  · exact feed_err B g most x r w h s hx
  · obtain ⟨l, e⟩ := x
    obtain rfl : e = 0 := by simpa using hx
    exact feed_ok B g most l r w h hB s hs

/-! ### Next -/
set_option maxHeartbeats 800000 in
set_option maxRecDepth 100000 in
theorem next_nil (w : World) : Calls Try.prog 10 #[.pointer none] w fun en w' => en = .returned (.tuple #[.string ByteArray.empty, .bool false]) ∧ w' = w := by
  go_enter Try.func10, Try.ntmps10
  go_wp2
  go_ret2
  exact ⟨rfl, rfl⟩
/-- What Next tells. -/
def NextVal (most : Nat) (x : FS) : Value := .tuple #[.string ⟨(fNext most x).2.1.toArray⟩, .bool (fNext most x).2.2]
set_option maxHeartbeats 800000 in
set_option maxRecDepth 100000 in
theorem next_err (B g most : Nat) (x : FS) (r : Option Nat) (w : World) (h : Fr w B g most x r) (hx : x.2 ≠ 0) :
    Calls Try.prog 10 #[.pointer (some ⟨g, 0, none⟩)] w (TurnPost (NextVal most x) B g most (fNext most x).1 r w) := by
  have hv := next_no (most := most) (x := x) (.inl hx)
  rw [NextVal, hv]
  have H := Lib.hid h
  obtain ⟨gone, v, ho, hm, hr, hng, hgo, hle, hmo, he⟩ := h
  obtain ⟨_, hc1, _, _⟩ := obj4 ho
  have hq : ((x.2 : Int) != 0) = true := by rw [bne_iff_ne]; omega
  clear ho hm hr hng hgo hle hmo hv hx
  go_enter Try.func10, Try.ntmps10
  go_wp2
  go_ret2
  exact ⟨rfl, r, H.out, .inl rfl, Chg.refl _ _⟩
set_option maxHeartbeats 800000 in
set_option maxRecDepth 100000 in
theorem next_none (B g most : Nat) (l : List UInt8) (r : Option Nat) (w : World) (h : Fr w B g most (l, 0) r) (ht : tf most l = 0) (hz : fz most l = 0 ∨ l.length < fz most l) :
    Calls Try.prog 10 #[.pointer (some ⟨g, 0, none⟩)] w (TurnPost (NextVal most (l, 0)) B g most (fNext most (l, 0)).1 r w) := by
  have hv := next_fz_no (most := most) (x := (l, 0)) rfl ht hz
  rw [NextVal, hv]
  have H := Lib.hid h
  have HF := Lib.hid (front_any B g most _ _ _ h)
  obtain ⟨gone, v, ho, hm, hr, hng, hgo, hle, hmo, he⟩ := h
  obtain ⟨a, c, rfl⟩ := mid_slice hm
  obtain ⟨_, hc1, hc2, _⟩ := obj4 ho
  have hfl := fz_le most l
  generalize fz most l = z at *
  clear ho hm hr hng hgo hmo hv ht
  simp only at HF
  by_cases hz0 : z = 0
  · subst hz0
    clear hz
    go_enter Try.func10, Try.ntmps10
    go_wp2_with fail
    refine HF.out.mono ?_
    rintro en w2 ⟨rfl, n, rfl⟩
    go_wp2
    go_ret2
    exact ⟨rfl, r, fr_drewN H.out n, .inl rfl, (Chg.refl _ _).drewN n⟩
  · have hq : ((z : Int) == 0) = false := by rw [beq_eq_false_iff_ne]; omega
    have hq2 : (l.length : Int) < (z : Int) := by omega
    clear hz hz0
    go_enter Try.func10, Try.ntmps10
    go_wp2_with fail
    refine HF.out.mono ?_
    rintro en w2 ⟨rfl, n, rfl⟩
    go_wp2
    go_ret2
    exact ⟨rfl, r, fr_drewN H.out n, .inl rfl, (Chg.refl _ _).drewN n⟩
set_option maxHeartbeats 800000 in
set_option maxRecDepth 100000 in
theorem next_some (B g most : Nat) (l : List UInt8) (r : Option Nat) (w : World) (h : Fr w B g most (l, 0) r) (hB : B ≤ w.heap.size) (hz0 : fz most l ≠ 0) (hz1 : ¬ l.length < fz most l) :
    Calls Try.prog 10 #[.pointer (some ⟨g, 0, none⟩)] w (TurnPost (NextVal most (l, 0)) B g most (fNext most (l, 0)).1 r w) := by
  have hv := next_fz_yes (most := most) (x := (l, 0)) rfl hz0 hz1
  rw [NextVal, hv]
  have H := Lib.hid h
  have HF := Lib.hid (front_any B g most _ _ _ h)
  obtain ⟨gone, v, ho, hm, hr, hng, hgo, hle, hmo, he⟩ := h
  have hlz : 0 < l.length := by omega
  obtain ⟨b, o, cap, rfl, hlc, hb⟩ := mid_form hm hlz
  obtain ⟨_, hc1, hc2, _⟩ := obj4 ho
  simp only at HF hm hc1 hc2 hlc hle ⊢
  generalize hz : fz most l = z at *
  have hcv : ∀ n, (convert 39 9 (.slice (some ⟨b, o, none⟩) z cap)).run Try.prog (w.drewN n) = .ok (.string ⟨(l.take z).toArray⟩) (w.drewN n) := fun n => conv_mid Try.underlying39 Try.underlying5 Try.underlying9 (mid_heap (mid_take hm z (by omega)) rfl)
  have hq : ((z : Int) == 0) = false := by rw [beq_eq_false_iff_ne]; omega
  have hq2 : (z : Int) ≤ (l.length : Int) := by omega
  have hzc : (z : Int) ≤ (cap : Int) := by omega
  have hz2 : 0 < z := by omega
  have hz3 : z ≤ l.length := by omega
  clear ho hm hr hng hgo hmo hv hz0 hz1 hz
  go_enter Try.func10, Try.ntmps10
  go_wp2_with fail
  refine HF.out.mono ?_
  rintro en w2 ⟨rfl, n, rfl⟩
  have hcv' := hcv n
  have HD := Lib.hid (drop_any B g most z (l, 0) r (w.drewN n) (fr_drewN H.out n) hB hz2 hz3)
  clear hcv
  go_wp2_with fail
  refine HD.out.mono ?_
  rintro en w3 ⟨rfl, r', hfr, hrr, hch⟩
  have HFR := Lib.hid hfr
  have HRR := Lib.hid hrr
  have HCH := Lib.hid hch
  have HG := Lib.hid (front_any B g most _ _ _ hfr)
  clear hfr hrr hch hcv' HD HF
  go_wp2_with fail
  refine HG.out.mono ?_
  rintro en w4 ⟨rfl, k, rfl⟩
  have hfr2 := fr_drewN HFR.out k
  have HFR2 := Lib.hid hfr2
  have HCH2 := Lib.hid (HCH.out.drewN k)
  clear HG HFR HCH hc1 hc2
  generalize w3.drewN k = w4 at HFR2 HCH2 hfr2 ⊢
  obtain ⟨gone2, v2, ho2, _⟩ := hfr2
  obtain ⟨hc0, hc1, hc2, hc3⟩ := obj4 ho2
  have hz1 := obj_free ho2 1
  clear ho2
  simp only
  generalize ht : tf most (l.drop z) = t
  have HT := Lib.hid ht
  clear ht
  go_wp2
  go_ret2
  obtain ⟨h1, h2⟩ := fr_set_err HFR2.out t (by rw [← HT.out]; exact tf_le _ _)
  rw [HT.out]
  exact ⟨rfl, _, h1, HRR.out, (((Chg.refl _ w).drewN n).trans HCH2.out (fun _ _ h => h)).trans h2 (fun k _ hk => hk)⟩
/-- Next. -/
theorem nxt_any (B g most : Nat) (x : FS) (r : Option Nat) (w : World) (h : Fr w B g most x r) (hB : B ≤ w.heap.size) (ht : toldF most x) :
    Calls Try.prog 10 #[.pointer (some ⟨g, 0, none⟩)] w (TurnPost (NextVal most x) B g most (fNext most x).1 r w) := by
  by_cases hx : x.2 ≠ 0
  · exact next_err B g most x r w h hx
  · obtain ⟨l, e⟩ := x
    obtain rfl : e = 0 := by simpa using hx
    have ht' : tf most l = 0 := by
      rcases ht with h | h
      · exact absurd rfl h
      · exact h
    by_cases hz : fz most l = 0 ∨ l.length < fz most l
    · exact next_none B g most l r w h ht' hz
    · exact next_some B g most l r w h hB (fun h => hz (.inl h)) (fun h => hz (.inr h))
end Go.Proofs.Ytgihggaokamonaa
