/- The code's Put and the document's Put hand back the same bytes and the same error, for every tag and every text that is no longer than a text may be. -/
import Derived.Test.YtlnfbjgadcifkaaDoorBerD
import Derived.Deep.RegionWith
namespace Go.Proofs.YtlnfbjgadcifkaaDoor
open Go.RowKit Go.Proofs.BerM Go.Proofs.BerK

/-- The bytes of a tag and a body; none where there is an error. -/
def putL (t : Int) (l : List UInt8) : List UInt8 := if tagB t = true ∧ l.length ≤ 65536 then UInt8.ofNat t.toNat :: (lenB l.length ++ l) else []
/-- The error of a tag and a body. -/
def putE (t : Int) (l : List UInt8) : Int := if tagB t = false then 6 else if 65536 < l.length then 3 else 0
theorem putL_ok {t : Int} {l : List UInt8} (h : tagB t = true) (h2 : l.length ≤ 65536) : putL t l = UInt8.ofNat t.toNat :: (lenB l.length ++ l) := by simp [putL, h, h2]
theorem putE_ok {t : Int} {l : List UInt8} (h : tagB t = true) (h2 : l.length ≤ 65536) : putE t l = 0 := by simp [putE, h]; omega
theorem tagB_bd {t : Int} (h : tagB t = true) : 0 ≤ t ∧ t ≤ 254 := by simp [tagB] at h; exact ⟨h.1.1, h.1.2⟩

theorem cat3 (x : UInt8) (l : List UInt8) (s : ByteArray) : ByteArray.mk #[x] ++ ByteArray.mk l.toArray ++ s = ByteArray.mk (x :: (l ++ s.data.toList)).toArray := by
  apply ByteArray.ext
  simp [ByteArray.data_append]
/-- Put's answer. -/
def putV (t : Int) (l : List UInt8) : Value := .tuple #[.string ⟨(putL t l).toArray⟩, .int .i64 (putE t l)]
theorem ret_put {t : Int} {l a : List UInt8} {b : Int} (h1 : putL t l = a) (h2 : putE t l = b) : Ending.returned (.tuple #[.string ⟨a.toArray⟩, .int .i64 b]) = .returned (putV t l) := by rw [putV, h1, h2]

set_option maxHeartbeats 400000 in
set_option maxRecDepth 100000 in
theorem put_tag (t : Int) (s : ByteArray) (w : World) (h : tagB t = false) :
    Calls Tryd.prog 37 #[.int .i64 t, .string s] w fun e w' => e = .returned (putV t s.data.toList) ∧ Below w.heap.size w w' := by
  go_enter Tryd.func37, Tryd.ntmps37
  go_wp2_with (go_at_call 53; refine (isTag_any _ _).mono ?_; rintro e w' ⟨rfl, rfl⟩)
  go_ret2
  exact ⟨ret_put (a := []) (by simp [putL, h]) (by simp [putE, h]), Below.refl _ _⟩

set_option maxHeartbeats 400000 in
set_option maxRecDepth 100000 in
theorem put_long (t : Int) (s : ByteArray) (w : World) (h : tagB t = true) (h2 : 65536 < s.size) (h3 : s.size ≤ maxLen) :
    Calls Tryd.prog 37 #[.int .i64 t, .string s] w fun e w' => e = .returned (putV t s.data.toList) ∧ Below w.heap.size w w' := by
  unfold maxLen at h3
  go_enter Tryd.func37, Tryd.ntmps37
  go_wp2_with (go_at_call 53; refine (isTag_any _ _).mono ?_; rintro e w' ⟨rfl, rfl⟩)
  go_ret2
  exact ⟨ret_put (a := []) (by simp [putL]; omega) (by simp [putE, h]; omega), Below.refl _ _⟩

set_option maxHeartbeats 800000 in
set_option maxRecDepth 100000 in
theorem put_ok (t : Int) (s : ByteArray) (w : World) (h : tagB t = true) (h2 : s.size ≤ 65536) :
    Calls Tryd.prog 37 #[.int .i64 t, .string s] w fun e w' => e = .returned (putV t s.data.toList) ∧ Below w.heap.size w w' := by
  obtain ⟨hb0, hb1⟩ := tagB_bd h
  obtain ⟨i0, hi, hz0, hz1, hz2⟩ := info_parts Tryd.info5
  have eb : bc [UInt8.ofNat t.toNat] = [Value.int .u8 t] := by rw [bc_one]; congr 2; omega
  have EB := Lib.hid eb
  clear eb
  have HZ1 := Lib.hid hz1
  have HZ2 := Lib.hid hz2
  have HI := Lib.hid hi
  have HZ0 := Lib.hid hz0
  clear hi hz0 hz1 hz2
  go_enter Tryd.func37, Tryd.ntmps37
  go_wp2_with (first | (go_at_call 53; refine (isTag_any _ _).mono ?_; rintro e w' ⟨rfl, rfl⟩) | (at_make; refine wpList_make_own _ rfl _ _ 84 rfl w.heap.size 5 i0 (.int .u8 0) 1 Tryd.underlying84 HI.out HZ0.out HZ1.out _ _ _ (6 + s.size) rfl rfl ?b0 ?b1 ?b2 ?b3 ?_))
  case b0 => omega
  case b1 => rw [HZ2.out]; omega
  case b2 => unfold maxLen; omega
  case b3 => omega
  intro w1 hown1 hg1
  have hb1' : Below w.heap.size w w1 := (Below.refl _ _).grown hg1 (Nat.le_refl _) (fun k hk => by cases hk)
  clear hg1
  go_wp2_with (at_builtin; refine wpList_push rfl (.tmp 17) (.tmp 20) 84 5 rfl w.heap.size 1 1 (.int .u8 0) Tryd.info5 Tryd.underlying84 rfl (by decide) [.int .u8 t] rfl (by simp [Value.oneCell']) _ 0 [] rfl rfl hown1 ?c1 ?c2 hb1'.size ?_)
  case c1 => unfold maxLen; omega
  case c2 => omega
  intro v2 w2 hown2 hb2
  rw [← EB.out] at hown2
  have hs2 := Nat.le_trans hb1'.size hb2.size
  go_wp2_with fail
  refine (appLen_any w.heap.size 1 s.size v2 _ _ (by omega) (by omega) hs2 hown2).mono ?_
  rintro e w3 ⟨v3, rfl, hown3, hb3⟩
  have hl5 : (lenB s.size).length ≤ 5 := by
    have := beF_len_le 4 s.size (by omega)
    unfold lenB; split <;> simp; omega
  have hs3 := Nat.le_trans hs2 hb3.size
  go_wp2_with (at_builtin; (refine Lib.wpList_append_own_string (w := w3) rfl (.tmp 27) (.tmp 28) 84 9 rfl w.heap.size 5 i0 Tryd.underlying84 Tryd.underlying9 HI.out HZ0.out HZ1.out HZ2.out v3 _ _ rfl hown3 s rfl ?e1 ?e2 ?e3 ?_))
  case e1 => unfold maxLen; omega
  case e2 => omega
  case e3 => exact hs3
  intro v4 w4 hown4 hg4 h44
  clear h44
  have hb4 : Below w.heap.size w w4 := below_push hown3 (Nat.le_refl _) hs3 hg4 (hb1'.trans (hb2.trans hb3))
  have e5 : bc (UInt8.ofNat t.toNat :: lenB s.size) ++ Lib.strCells s = bc (UInt8.ofNat t.toNat :: (lenB s.size ++ s.data.toList)) := by
    have : Lib.strCells s = bc s.data.toList := rfl
    rw [this, ← bc_append]; simp
  rw [e5] at hown4
  have hc := conv_own (P := Tryd.prog) (src := 84) (dst := 9) Tryd.underlying84 Tryd.underlying5 Tryd.underlying9 hown4 (by omega)
  clear hown4 hg4 hown3 e5
  go_wp2
  go_ret2
  exact ⟨ret_put (by rw [putL_ok h (by simpa using h2)]; simp) (by rw [putE_ok h (by simpa using h2)]), hb4⟩

theorem put_any (t : Int) (s : ByteArray) (w : World) (h3 : s.size ≤ maxLen) :
    Calls Tryd.prog 37 #[.int .i64 t, .string s] w fun e w' => e = .returned (putV t s.data.toList) ∧ Below w.heap.size w w' := by
  by_cases h : tagB t = true
  · by_cases h2 : s.size ≤ 65536
    · exact put_ok t s w h h2
    · exact put_long t s w h (by omega) h3
  · exact put_tag t s w (by simpa using h)

theorem length_any (n : Nat) (w : World) (h4 : n < 4294967296) :
    Calls Tryd.prog 42 #[.int .i64 n] w fun e w' => e = .returned (.string ⟨(lenB n).toArray⟩) ∧ Below w.heap.size w w' := by
  by_cases h : n < 128
  · exact length_small n w h
  · exact length_big n w (by omega) h4

set_option maxHeartbeats 400000 in
set_option maxRecDepth 100000 in
theorem rput_tag (t : Int) (s : ByteArray) (w : World) (h : tagB t = false) :
    Calls Tryd.prog 22 #[.int .i64 t, .string s] w fun e w' => e = .returned (putV t s.data.toList) ∧ Below w.heap.size w w' := by
  go_enter Tryd.func22, Tryd.ntmps22
  go_wp2_with (go_at_call 41; refine (tagged_any _ _).mono ?_; rintro e w' ⟨rfl, rfl⟩)
  go_ret2
  exact ⟨ret_put (a := []) (by simp [putL, h]) (by simp [putE, h]), Below.refl _ _⟩

set_option maxHeartbeats 400000 in
set_option maxRecDepth 100000 in
theorem rput_long (t : Int) (s : ByteArray) (w : World) (h : tagB t = true) (h2 : 65536 < s.size) (h3 : s.size ≤ maxLen) :
    Calls Tryd.prog 22 #[.int .i64 t, .string s] w fun e w' => e = .returned (putV t s.data.toList) ∧ Below w.heap.size w w' := by
  unfold maxLen at h3
  go_enter Tryd.func22, Tryd.ntmps22
  go_wp2_with (go_at_call 41; refine (tagged_any _ _).mono ?_; rintro e w' ⟨rfl, rfl⟩)
  go_ret2
  exact ⟨ret_put (a := []) (by simp [putL]; omega) (by simp [putE, h]; omega), Below.refl _ _⟩

set_option maxHeartbeats 800000 in
set_option maxRecDepth 100000 in
theorem rput_ok (t : Int) (s : ByteArray) (w : World) (h : tagB t = true) (h2 : s.size ≤ 65536) :
    Calls Tryd.prog 22 #[.int .i64 t, .string s] w fun e w' => e = .returned (putV t s.data.toList) ∧ Below w.heap.size w w' := by
  obtain ⟨hb0, hb1⟩ := tagB_bd h
  have hc := conv_at (P := Tryd.prog) 84 9 5 Tryd.underlying84 Tryd.underlying5 Tryd.underlying9 t
  have hw8 : IntKind.u8.wrap t = t := by rw [IntKind.wrap_u8]; omega
  have hl5 : (lenB s.size).length ≤ 5 := by
    have := beF_len_le 4 s.size (by omega)
    unfold lenB; split <;> simp; omega
  go_enter Tryd.func22, Tryd.ntmps22
  go_wp2_with (go_at_call 41; refine (tagged_any _ _).mono ?_; rintro e w' ⟨rfl, rfl⟩)
  go_region_with (go_at_call 42; refine (length_any s.size _ (by omega)).mono ?_; rintro e w1 ⟨rfl, hb1⟩; obtain ⟨hc1, hf1⟩ := bcell hb1)
  all_goals
    go_wp2
    go_ret2
    rw [cat3]
  · exact ⟨ret_put (putL_ok h (by simpa using h2)) (putE_ok h (by simpa using h2)), (((Below.refl _ _).alloc (Nat.le_refl _) _).drew).trans (hb1.mono (by simp))⟩
  · exact ⟨ret_put (putL_ok h (by simpa using h2)) (putE_ok h (by simpa using h2)), (((Below.refl _ _).alloc (Nat.le_refl _) _).drew).trans (hb1.mono (by simp))⟩
  · exact ⟨ret_put (putL_ok h (by simpa using h2)) (putE_ok h (by simpa using h2)), ((Below.refl _ _).drew.trans (hb1.mono (Nat.le_refl _))).alloc hb1.size _⟩

theorem rput_any (t : Int) (s : ByteArray) (w : World) (h3 : s.size ≤ maxLen) :
    Calls Tryd.prog 22 #[.int .i64 t, .string s] w fun e w' => e = .returned (putV t s.data.toList) ∧ Below w.heap.size w w' := by
  by_cases h : tagB t = true
  · by_cases h2 : s.size ≤ 65536
    · exact rput_ok t s w h h2
    · exact rput_long t s w h (by omega) h3
  · exact rput_tag t s w (by simpa using h)
end Go.Proofs.YtlnfbjgadcifkaaDoor
