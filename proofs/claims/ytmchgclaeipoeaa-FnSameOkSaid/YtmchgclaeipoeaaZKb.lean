import Derived.Test.YtmchgclaeipoeaaZKa
namespace Go.Proofs.Ytmchgclaeipoeaa
open Go.RowKit Go.Deep Go.Lib

theorem headF_empty {s : ByteArray} (h : s.size = 0) : s.data.toList = [] := List.eq_nil_of_length_eq_zero (by rw [← size_data]; exact h)
theorem place3_none {c : UInt8} (h1 : c ≠ 97) (h2 : c ≠ 98) (h3 : c ≠ 99) : placeI [97, 98, 99] c = -1 := by
  have e1 : ((97 : UInt8) == c) = false := by simp [Ne.symm h1]
  have e2 : ((98 : UInt8) == c) = false := by simp [Ne.symm h2]
  have e3 : ((99 : UInt8) == c) = false := by simp [Ne.symm h3]
  simp [placeI, Lib.indexByte, e1, e2, e3]
theorem place2_none {c : UInt8} (h1 : c ≠ 48) (h2 : c ≠ 49) : placeI [48, 49] c = -1 := by
  have e1 : ((48 : UInt8) == c) = false := by simp [Ne.symm h1]
  have e2 : ((49 : UInt8) == c) = false := by simp [Ne.symm h2]
  simp [placeI, Lib.indexByte, e1, e2]
theorem byte_ne {c d : UInt8} (h : c ≠ d) : ¬ (c.toNat : Int) = (d.toNat : Int) := fun e => h (UInt8.toNat_inj.1 (by omega))

set_option maxRecDepth 100000 in
set_option maxHeartbeats 4000000 in
theorem ahead_step {n : Nat} (IH : AheadAll n) : AheadAll (n + 1) := by
  intro s hs w
  cases hl : s.data.toList with
  | nil =>
    have hem := ba_nil hl
    clear hl
    go_enter Try.func42, Try.ntmps42
    go_wp2_with fail
    go_returns
    exact AheadOf.no (Below.refl _ _) rfl (.inl rfl)
  | cons c t =>
    obtain ⟨hem, ⟨h0, hc⟩, htl, hsz, hsz2⟩ := ba_cons hl
    rw [hsz] at htl hsz2
    clear hl
    have hbd := (Below.refl w.heap.size w).drew
    by_cases h97 : c = 97
    · subst h97
      go_enter Try.func42, Try.ntmps42
      go_wp2_with fail
      go_region
      go_wp2_with fail
      go_at_call 57
      refine (sign_at _ 97 _ (0) (by first | rfl | (rw [hc]) | skip) (by decide) _).mono ?_
      rintro e w2 ⟨rfl, rfl⟩
      go_wp2_with fail
      go_returns
      exact AheadOf.yes (f := .la) hbd (headF_a t) htl
    by_cases h98 : c = 98
    · subst h98
      go_enter Try.func42, Try.ntmps42
      go_wp2_with fail
      go_region
      go_wp2_with fail
      go_at_call 57
      refine (sign_at _ 98 _ (1) (by first | rfl | (rw [hc]) | skip) (by decide) _).mono ?_
      rintro e w2 ⟨rfl, rfl⟩
      go_wp2_with fail
      go_returns
      exact AheadOf.yes (f := .lb) hbd (headF_b t) htl
    by_cases h99 : c = 99
    · subst h99
      go_enter Try.func42, Try.ntmps42
      go_wp2_with fail
      go_region
      go_wp2_with fail
      go_at_call 57
      refine (sign_at _ 99 _ (2) (by first | rfl | (rw [hc]) | skip) (by decide) _).mono ?_
      rintro e w2 ⟨rfl, rfl⟩
      go_wp2_with fail
      go_returns
      exact AheadOf.yes (f := .lc) hbd (headF_c t) htl
    by_cases h48 : c = 48
    · subst h48
      go_enter Try.func42, Try.ntmps42
      go_wp2_with fail
      go_region
      go_wp2_with fail
      go_at_call 57
      refine (sign_at _ 48 _ (-1) (by first | rfl | (rw [hc]) | skip) (by decide) _).mono ?_
      rintro e w2 ⟨rfl, rfl⟩
      go_wp2_with fail
      go_at_call 57
      refine (sign_at _ 48 _ (0) (by first | rfl | (rw [hc]) | skip) (by decide) _).mono ?_
      rintro e w2 ⟨rfl, rfl⟩
      go_wp2_with fail
      go_returns
      exact AheadOf.yes (f := .no) hbd (headF_0 t) htl
    by_cases h49 : c = 49
    · subst h49
      go_enter Try.func42, Try.ntmps42
      go_wp2_with fail
      go_region
      go_wp2_with fail
      go_at_call 57
      refine (sign_at _ 49 _ (-1) (by first | rfl | (rw [hc]) | skip) (by decide) _).mono ?_
      rintro e w2 ⟨rfl, rfl⟩
      go_wp2_with fail
      go_at_call 57
      refine (sign_at _ 49 _ (1) (by first | rfl | (rw [hc]) | skip) (by decide) _).mono ?_
      rintro e w2 ⟨rfl, rfl⟩
      go_wp2_with fail
      go_returns
      exact AheadOf.yes (f := .yes) hbd (headF_1 t) htl
    by_cases h33 : c = 33
    · subst h33
      go_enter Try.func42, Try.ntmps42
      go_wp2_with fail
      go_region
      go_wp2_with fail
      go_at_call 57
      refine (sign_at _ 33 _ (-1) (by first | rfl | (rw [hc]) | skip) (by decide) _).mono ?_
      rintro e w2 ⟨rfl, rfl⟩
      go_wp2_with fail
      go_at_call 57
      refine (sign_at _ 33 _ (-1) (by first | rfl | (rw [hc]) | skip) (by decide) _).mono ?_
      rintro e w2 ⟨rfl, rfl⟩
      go_wp2_with fail
      go_at_call 42
      refine (IH _ (by omega) _).mono ?_
      rintro e w3 ⟨hb3, v3, r3, b3, rfl, hx⟩
      rw [htl] at hx
      have hb := hbd.trans (hb3.mono hbd.size)
      cases h3 : headF t with
      | none =>
        rw [h3] at hx
        obtain ⟨rfl, hif⟩ := hx
        have HN : Hid (headF (33 :: t) = none) := by show _ = _; rw [headF_neg, h3]; rfl
        clear h3 hbd hb3
        rcases hif with rfl | ⟨tv, vv, rfl⟩
        · go_wp2_with fail
          go_returns
          exact AheadOf.no hb HN.out (.inr ⟨_, _, rfl⟩)
        · go_wp2_with fail
          go_returns
          exact AheadOf.no hb HN.out (.inr ⟨_, _, rfl⟩)
      | some x =>
        obtain ⟨f, t3⟩ := x
        rw [h3] at hx
        obtain ⟨rfl, hr, rfl⟩ := hx
        have HN : Hid (headF (33 :: t) = some (.neg f, t3)) := by show _ = _; rw [headF_neg, h3]; rfl
        obtain ⟨tf, vf, ef⟩ := fmV_iface f
        rw [ef]
        have EF := Lib.hid ef
        clear ef h3 hbd hb3
        go_wp2_with fail
        go_returns
        rw [← EF.out]
        exact AheadOf.yes (f := .neg f) hb HN.out hr
    by_cases h40 : c = 40
    · subst h40
      go_enter Try.func42, Try.ntmps42
      go_wp2_with fail
      go_region
      go_wp2_with fail
      go_at_call 57
      refine (sign_at _ 40 _ (-1) (by first | rfl | (rw [hc]) | skip) (by decide) _).mono ?_
      rintro e w2 ⟨rfl, rfl⟩
      go_wp2_with fail
      go_at_call 57
      refine (sign_at _ 40 _ (-1) (by first | rfl | (rw [hc]) | skip) (by decide) _).mono ?_
      rintro e w2 ⟨rfl, rfl⟩
      go_wp2_with fail
      go_at_call 58
      refine (compound_any IH _ (by omega) _).mono ?_
      rintro e w3 ⟨hb3, v3, r3, b3, rfl, hx⟩
      rw [htl] at hx
      have hb := hbd.trans (hb3.mono hbd.size)
      have HX : Hid (AheadOf (headF (40 :: t)) w (.returned (.tuple #[v3, .string r3, .bool b3])) w3) := ⟨hb, v3, r3, b3, rfl, hx⟩
      clear hx hb hbd hb3
      go_wp2_with fail
      go_returns
      exact HX.out
    have HN : Hid (headF (c :: t) = none) := headF_other h97 h98 h99 h48 h49 h33 h40
    have n33 := byte_ne h33
    have n40 := byte_ne h40
    have p3 := place3_none h97 h98 h99
    have p2 := place2_none h48 h49
    have n33' : ¬ (c.toNat : Int) = 33 := n33
    have n40' : ¬ (c.toNat : Int) = 40 := n40
    clear h97 h98 h99 h48 h49 h33 h40 n33 n40
    go_enter Try.func42, Try.ntmps42
    go_wp2_with fail
    go_region
    go_wp2_with fail
    go_at_call 57
    refine (sign_at _ c _ ((-1)) (by first | rfl | (rw [hc]) | skip) p3 _).mono ?_
    rintro e w2 ⟨rfl, rfl⟩
    go_wp2_with fail
    go_at_call 57
    refine (sign_at _ c _ ((-1)) (by first | rfl | (rw [hc]) | skip) p2 _).mono ?_
    rintro e w2 ⟨rfl, rfl⟩
    go_wp2_with fail
    go_returns
    exact AheadOf.no hbd HN.out (.inl rfl)
theorem ahead_zero : AheadAll 0 := by
  intro s hs w
  have hl := headF_empty (Nat.le_zero.1 hs)
  have hem := ba_nil hl
  rw [hl]
  clear hl
  go_enter Try.func42, Try.ntmps42
  go_wp2_with fail
  go_returns
  exact AheadOf.no (Below.refl _ _) rfl (.inl rfl)
theorem ahead_any : ∀ n, AheadAll n
  | 0 => ahead_zero
  | n + 1 => ahead_step (ahead_any n)
/-- What formulaOf hands back. -/
def FmOf (l : List UInt8) (w : World) (e : Ending) (w' : World) : Prop :=
  Below w.heap.size w w' ∧ ((formB l = true ∧ ∃ f, fmOf l = some f ∧ e = .returned (.tuple #[fmV f, .bool true])) ∨ (formB l = false ∧ ∃ v, IfV v ∧ e = .returned (.tuple #[v, .bool false])))
set_option maxRecDepth 100000 in
set_option maxHeartbeats 4000000 in
theorem formulaOf_any (s : ByteArray) (w : World) (hsz : s.size ≤ 9223372036854775807) : Calls Try.prog 16 #[.string s] w (FmOf s.data.toList w) := by
  have hlen := size_data s
  by_cases hbig : 60 < s.size
  · have hbig' : (60 : Int) < s.size := by omega
    have HN : Hid (formB s.data.toList = false) := by show _ = _; unfold formB; rw [decide_eq_false (by omega)]; rfl
    clear hlen
    go_enter Try.func16, Try.ntmps16
    go_wp2_with fail
    go_returns
    exact ⟨Below.refl _ _, .inr ⟨HN.out, _, .inl rfl, rfl⟩⟩
  · have hbig' : ¬ (60 : Int) < s.size := by omega
    have HB : Hid (formB s.data.toList = (fmOf s.data.toList).isSome) := by show _ = _; unfold formB; rw [decide_eq_true (by omega)]; rfl
    clear hlen
    go_enter Try.func16, Try.ntmps16
    go_wp2_with fail
    go_at_call 42
    refine (ahead_any s.size s (Nat.le_refl _) _).mono ?_
    rintro e w1 ⟨hb1, v1, r1, b1, rfl, hx⟩
    cases h1 : headF s.data.toList with
    | none =>
      rw [h1] at hx
      obtain ⟨rfl, hif⟩ := hx
      have HN : Hid (formB s.data.toList = false) := by show _ = _; rw [HB.out]; unfold fmOf; rw [h1]; rfl
      clear h1 HB
      go_wp2_with fail
      go_returns
      exact ⟨hb1, .inr ⟨HN.out, _, hif, rfl⟩⟩
    | some x =>
      obtain ⟨f, t⟩ := x
      rw [h1] at hx
      obtain ⟨rfl, hr, rfl⟩ := hx
      cases t with
      | nil =>
        have hem := ba_nil hr
        have hF : fmOf s.data.toList = some f := by unfold fmOf; rw [h1]
        have HN : Hid (formB s.data.toList = true ∧ fmOf s.data.toList = some f) := ⟨by rw [HB.out, hF]; rfl, hF⟩
        clear h1 HB hF hr
        go_wp2_with fail
        go_returns
        exact ⟨hb1, .inl ⟨HN.out.1, f, HN.out.2, rfl⟩⟩
      | cons c9 t9 =>
        have hem := (ba_cons hr).1
        have HN : Hid (formB s.data.toList = false) := by show _ = _; rw [HB.out]; unfold fmOf; rw [h1]; rfl
        clear h1 HB hr
        go_wp2_with fail
        go_returns
        exact ⟨hb1, .inr ⟨HN.out, _, .inr (fmV_iface _), rfl⟩⟩
end Go.Proofs.Ytmchgclaeipoeaa
