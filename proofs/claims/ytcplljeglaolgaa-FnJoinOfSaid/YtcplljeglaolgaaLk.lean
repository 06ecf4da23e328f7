/- The law on JoinOf, walked at whatever code. -/
import Derived.Test.YtcplljeglaolgaaLj
import Derived.Test.YtcplljeglaolgaaWr
namespace Go.Proofs.Ytcplljeglaolgaa
open Go.RowKit Go.Deep

theorem meetV_tr {m : Mx} (ho : orderB m = true) (x y : Int) : meetV (tr m) x y = joinV m x y := by
  have ht : orderB (tr m) = true := orderB_true (tr_order (orderB_is ho))
  by_cases hc : 0 ≤ x ∧ x < (m.n : Int) ∧ 0 ≤ y ∧ y < (m.n : Int)
  · obtain ⟨h1, h2, h3, h4⟩ := hc
    obtain ⟨a, rfl⟩ := Int.eq_ofNat_of_zero_le h1
    obtain ⟨b, rfl⟩ := Int.eq_ofNat_of_zero_le h3
    have ha : a < m.n := by omega
    have hb : b < m.n := by omega
    rw [joinV_yes ho ha hb, meetV_yes (m := tr m) ht ha hb]
  · exact (meetV_no (m := tr m) fun h => hc h.2).trans (joinV_no fun h => hc h.2).symm
theorem joinV_none {m : Mx} {x y : Int} (h : hasI (joinV m x y) = false) : joinV m x y = -1 := by
  by_cases ho : orderB m = true
  · rw [← meetV_tr ho] at h ⊢; exact meetV_none h
  · exact joinV_no fun h' => ho h'.1
theorem joinV_parts {m : Mx} {x y : Int} (h : hasI (joinV m x y) = true) : orderB m = true ∧ ∃ a b c : Nat, x = (a : Int) ∧ y = (b : Int) ∧ a < m.n ∧ b < m.n ∧ c < m.n ∧ joinV m x y = (c : Int) ∧ m.Z a c = 1 ∧ m.Z b c = 1 ∧ (m.Z a b = 1 → c = b) := by
  by_cases ho : orderB m = true
  · rw [← meetV_tr ho] at h ⊢
    obtain ⟨ht, a, b, rfl, rfl, ha, hb, hv⟩ := meetV_parts h
    rw [hv] at h ⊢
    obtain ⟨c, hc, he, h1, h2, h3⟩ := meetI_parts h
    have ha' : a < m.n := ha
    have hb' : b < m.n := hb
    have hc' : c < m.n := hc
    have h1' : m.Z a c = 1 := h1
    have h2' : m.Z b c = 1 := h2
    refine ⟨ho, a, b, c, rfl, rfl, ha', hb', hc', he, h1', h2', fun hab => ?_⟩
    have hord := orderB_is ho
    have h4 : m.Z c b = 1 := h3 b hb hab (hord.refl b hb')
    exact le_anti hord hc' hb' (leB_mk h4) (leB_mk h2')
  · rw [joinV_no fun h' => ho h'.1] at h; cases h
theorem MeetOf_nil (w : World) (x y : Int) : Calls Try.prog 23 #[.slice none 0 0, .int .i64 x, .int .i64 y] w fun e w' => e = .returned (.tuple #[.int .i64 (-1), .bool false]) ∧ Below w.heap.size w w' := by
  have h := MeetOf_any (w := w) (m := emptyM) (l := emptyLay 0) (a := x) (b := y) (Nat.zero_le _) (fun _ _ => Nat.zero_le _) (empty_at w 0 none 0) (Nat.zero_le _)
  rw [meetV_no (m := emptyM) fun h => by
    have h2 : y < (0 : Int) := h.2.2.2.2
    have h1 := h.2.2.2.1
    omega] at h
  exact h
theorem MeetOf_tr {w : World} {b : Nat} {G : Nat → Nat} {m : Mx} (ho : orderB m = true) (h : OwnMat w b G (tr m)) (x y : Int) :
    Calls Try.prog 23 #[.slice (some ⟨b, 0, none⟩) m.n m.n, .int .i64 x, .int .i64 y] w fun e w' => e = .returned (.tuple #[.int .i64 (joinV m x y), .bool (hasI (joinV m x y))]) ∧ Below w.heap.size w w' := by
  have h12 := (orderB_is ho).top
  have := MeetOf_any (m := tr m) (l := ownLay b G (tr m)) (a := x) (b := y) (by show m.n ≤ _; omega) (fun _ _ => by show m.n ≤ _; omega) h.mat (Nat.le_refl _)
  rw [meetV_tr ho] at this
  exact this

set_option maxRecDepth 100000 in
set_option maxHeartbeats 1000000 in
theorem law_JoinOf {A : Option Addr} {b o n cap : Nat} {z : Nat → Nat} {w : World} (h : CodeAt w A b o n cap z) :
    Calls Try.prog 4 #[.slice A n cap] w fun e w' => e = .returned (.bool true) ∧ Below w.heap.size w w' := by
  have hn := h.hn
  have hc := h.hc
  by_cases hbig : 1048576 < n
  · have hbig' : (1048576 : Int) < n := by omega
    clear h
    go_enter Try.func4, Try.ntmps4
    go_wp2_with fail
    go_ret
    exact ⟨rfl, Below.refl _ _⟩
  · have hbig' : ¬ (1048576 : Int) < n := by omega
    go_enter Try.func4, Try.ntmps4
    go_wp2_with fail
    go_at_call 26
    refine (draw_JoinOf h).mono ?_
    rintro e w1 ⟨a, l, m, x, y, rfl, hm, h12, hL, b1⟩
    clear h
    have hn1 : m.n ≤ 9223372036854775807 := by omega
    have hL1 : ∀ r, r < m.n → m.L r ≤ 9223372036854775807 := fun r hr => by have := hL r hr; omega
    have HL := Lib.hid hL1
    clear hL hL1
    go_wp2_with fail
    go_at_call 27
    refine (JoinOf_any hn1 HL.out hm (Nat.le_refl _)).mono ?_
    rintro e w2 ⟨rfl, b2⟩
    have hm2 := (hm.below b2).more b2.size
    have B2 := b1.trans (b2.mono b1.size)
    clear hm
    have s2 := B2.size
    go_wp2_with fail
    go_at_call 28
    refine (spec_JoinOf hn1 HL.out hm2).mono ?_
    rintro e w3 ⟨rfl, rfl⟩
    cases ho : orderB m with
    | false =>
      have hv : joinV m x y = -1 := joinV_no fun h => by rw [ho] at h; cases h.1
      have HO := Lib.hid ho
      rw [hv]
      clear ho hv
      go_wp2_with fail
      go_at_call 29
      refine (TurnedOf_no hn1 HL.out hm2 (Nat.le_refl _) HO.out).mono ?_
      rintro e w4 ⟨rfl, b4⟩
      have B4 := B2.trans (b4.mono B2.size)
      clear hm2
      go_wp2_with fail
      go_at_call 23
      refine (MeetOf_nil _ _ _).mono ?_
      rintro e w5 ⟨rfl, b5⟩
      have B5 := B4.trans (b5.mono B4.size)
      go_wp2_with fail
      go_at_call 25
      refine (alive_any _).mono ?_
      rintro e w6 ⟨rfl, b6⟩
      go_wp2_with fail
      go_ret
      exact ⟨rfl, B5.trans (b6.mono B5.size)⟩
    | true =>
      have HO := Lib.hid ho
      have HS := Lib.hid (orderB_is ho).sq
      clear ho
      cases hh : hasI (joinV m x y) with
      | false =>
        have HV := Lib.hid (joinV_none hh)
        rw [HV.out]
        clear hh
        go_wp2_with fail
        go_at_call 29
        refine (TurnedOf_yes hn1 HL.out hm2 (Nat.le_refl _) HO.out).mono ?_
        rintro e w4 ⟨tb, tG, rfl, b4, ho4, _, _⟩
        have B4 := B2.trans (b4.mono B2.size)
        clear hm2
        go_wp2_with fail
        go_at_call 23
        refine (MeetOf_tr HO.out ho4 _ _).mono ?_
        rintro e w5 ⟨rfl, b5⟩
        rw [HV.out]
        have B5 := B4.trans (b5.mono B4.size)
        clear ho4
        go_wp2_with fail
        go_at_call 25
        refine (alive_any _).mono ?_
        rintro e w6 ⟨rfl, b6⟩
        go_wp2_with fail
        go_ret
        exact ⟨rfl, B5.trans (b6.mono B5.size)⟩
      | true =>
        obtain ⟨_, p, q, c, rfl, rfl, hp, hq, hcl, hv, h1, h2, h3⟩ := joinV_parts hh
        have HV := Lib.hid hv
        have H1 := Lib.hid h1
        have H2 := Lib.hid h2
        have H3 := Lib.hid h3
        rw [hv]
        clear hh hv h1 h2 h3
        go_wp2_with fail
        go_at_call 29
        refine (TurnedOf_yes hn1 HL.out hm2 (Nat.le_refl _) HO.out).mono ?_
        rintro e w4 ⟨tb, tG, rfl, b4, ho4, _, _⟩
        have hm4 := (hm2.below b4).more b4.size
        have B4 := B2.trans (b4.mono B2.size)
        clear hm2
        go_wp2_with fail
        go_at_call 23
        refine (MeetOf_tr HO.out ho4 _ _).mono ?_
        rintro e w5 ⟨rfl, b5⟩
        rw [HV.out, hasI_nat]
        have hm5 := (hm4.below b5).more b5.size
        have B5 := B4.trans (b5.mono B4.size)
        clear ho4 hm4
        obtain ⟨rfl, t1, t2⟩ := hm5.sq HS.out hp hcl
        obtain ⟨_, t3, t4⟩ := hm5.sq HS.out hq hcl
        obtain ⟨_, _, t5⟩ := hm5.sq HS.out hp hq
        rw [H1.out] at t2
        rw [H2.out] at t4
        clear hm5
        rcases leB_cases HS.out hp hq with ⟨l1, z1⟩ | ⟨l1, z1⟩
        · obtain rfl := H3.out z1
          rw [z1] at t5
          clear l1 z1
          go_wp2_with fail
          go_ret
          exact ⟨rfl, B5⟩
        · rw [z1] at t5
          clear l1 z1
          go_wp2_with fail
          go_ret
          exact ⟨rfl, B5⟩
end Go.Proofs.Ytcplljeglaolgaa
