/- The law on ReadJournal against the reference, walked at whatever text. -/
import Derived.Test.YtjofkejfldmmlaaDoorXs
namespace Go.Proofs.YtjofkejfldmmlaaDoor
open Go.RowKit Go.Deep

theorem linesL_ge (D : List Dd) : D.length ≤ (linesL D).length := by
  induction D with
  | nil => exact Nat.zero_le _
  | cons d D ih =>
    show D.length + 1 ≤ (((deedL d) ++ [10]) ++ linesL D).length
    rw [List.length_append, List.length_append]
    show _ ≤ _ + 1 + _
    omega
theorem flat_int (D : List Dd) : ∀ u ∈ D.flatMap deedC, u = .int .i64 (intOf u) := fun u hu => by
  obtain ⟨d, _, hd⟩ := List.mem_flatMap.1 hu
  unfold deedC at hd
  simp only [List.mem_cons, List.not_mem_nil, or_false] at hd
  rcases hd with rfl | rfl | rfl <;> rfl
/-- An own list of deeds may be written, number by number. -/
theorem own_rowW {w : World} {base : Nat} {v : Value} {D : List Dd} (h : w.ownsRow base 24 3 v D.length (D.flatMap deedC)) : ∃ a g cap z, v = .slice a D.length cap ∧ DsAt w w.heap.size a g 0 D ∧ (0 < D.length → base ≤ g) ∧ RowW w w.heap.size a g 0 (D.length * 3) z := by
  rcases h.2 with ⟨rfl, h0⟩ | ⟨g, cap, cur, rfl, hb, hh, hc, _⟩
  · refine ⟨none, 0, 0, fun _ => 0, by rw [h0], fun j d hd => ?_, fun hp => by omega, ⟨fun c hc => by omega⟩, fun c hc => by omega⟩
    have := (List.getElem?_eq_some_iff.1 hd).1
    omega
  · refine ⟨some ⟨g, 0, none⟩, g, cap, fun i => intOf ((D.flatMap deedC).getD i undef), rfl, fun j d hd => ?_, fun _ => hb, ⟨fun c hc => ?_⟩, fun c hc => ?_⟩
    · obtain ⟨h1, h2, h3⟩ := flat_at hd
      rw [Nat.zero_add]
      exact ⟨rfl, (h.lt g rfl).2, own_cell h h1, own_cell h h2, own_cell h h3⟩
    · have hl : c < (D.flatMap deedC).length := by rw [flat_len]; exact hc
      refine ⟨rfl, (h.lt g rfl).2, ?_⟩
      have e := flat_int D _ (List.getElem_mem hl)
      have e2 : (D.flatMap deedC)[c]? = some ((D.flatMap deedC)[c]'hl) := List.getElem?_eq_getElem hl
      rw [Nat.zero_add, own_cell h e2, List.getD_eq_getElem?_getD, e2]
      exact congrArg some e
    · exact Go.Joins.unfrozen_of_block hh _
theorem RowAt.carry {w w' : World} {B B' : Nat} {a : Option Addr} {g o n : Nat} {z : Nat → Int} (h : RowAt w B a g o n z) (hb : Below B' w w') (hB : B ≤ B') : RowAt w' B a g o n z :=
  ⟨fun c hc => by
    obtain ⟨h1, h2, h3⟩ := h.row c hc
    exact ⟨h1, h2, (hb.cell (p := ⟨g, o + c, none⟩) (by show g < _; omega)).trans h3⟩⟩

set_option maxRecDepth 100000 in
set_option maxHeartbeats 4000000 in
theorem law_ExactReadJournal {w : World} {s : ByteArray} (hs : s.size ≤ maxLen) (hF : LibOk w) :
    Calls Tryd.prog 9 #[.string s] w fun e w' => e = .returned (.bool true) ∧ Below w.heap.size w w' := by
  have hs' : s.size ≤ 9223372036854775807 := hs
  by_cases hbig : 1048576 < s.size
  · have hbig' : (1048576 : Int) < s.size := by omega
    go_enter Tryd.func9, Tryd.ntmps9
    go_wp2_with fail
    go_ret
    exact ⟨rfl, Below.refl _ _⟩
  have hbig' : ¬ (1048576 : Int) < s.size := by omega
  have HS := spec_ReadJournal s (by omega)
  have HP := fun (w' : World) (h : ErrOk w') => ReadJournal_any s (by omega) h
  obtain ⟨t1, t2, t3⟩ := readJ_take _ s.data.toList (Nat.le_refl _)
  have hlen : (readJ s.data.toList).1.length ≤ 1048576 := by
    have h1 := linesL_ge (readJ s.data.toList).1
    rw [← t1, List.length_take] at h1
    have := size_data s
    omega
  clear t1 t2 t3
  unfold JourOf at HS HP
  obtain ⟨D, hD⟩ : ∃ D, (readJ s.data.toList).1 = D := ⟨_, rfl⟩
  obtain ⟨L, hL⟩ : ∃ L, (readJ s.data.toList).2 = L := ⟨_, rfl⟩
  rw [hD, hL] at HS HP
  rw [hD] at hlen
  clear hD hL
  have HE := fun (w' : World) (a1 a2 : Option Addr) (g1 g2 c1 c2 : Nat) (h1 : DsAt w' w'.heap.size a1 g1 0 D) (h2 : DsAt w' w'.heap.size a2 g2 0 D) => eqDeedS_any (cap := c1) (cap' := c2) h1 h2 (by omega)
  obtain ⟨n, hn⟩ : ∃ n, D.length = n := ⟨_, rfl⟩
  have HN := Lib.hid hn
  rw [hn] at HE hlen
  obtain ⟨M, hM⟩ : ∃ M : Int, 1 + ((n * 3 : Nat) : Int) = M := ⟨_, rfl⟩
  have hM0 : ¬ M < 0 := by omega
  have HH := fun (w' : World) (B : Nat) (a : Option Addr) (g cap : Nat) (h : RowAt w' B a g 0 (n * 3) (fun i => 1 + i)) => heldDeedS_any (cap := cap) hlen h
  have HK := fun (w' : World) (B : Nat) (a : Option Addr) (g cap : Nat) (z : Nat → Int) (h : RowW w' B a g 0 (n * 3) z) => markDeedS_w (cap := cap) hlen h
  rw [hM] at HH HK
  clear hM hn
  go_enter Tryd.func9, Tryd.ntmps9
  go_wp2_with fail
  go_at_call 27
  refine (HS w).mono ?_
  rintro e w1 ⟨b1, v0, rfl, own0⟩
  obtain ⟨a0, g0, k0, hv0, hd0⟩ := ds_own own0
  rw [HN.out] at hv0
  subst hv0
  have hE1 := hF.e.below b1
  go_wp2_with fail
  go_at_call 20
  refine (HP w1 hE1).mono ?_
  rintro e w2 ⟨b2, v1, rfl, own1⟩
  obtain ⟨a1, g1, k1, z, hv1, hd1, hg1, hr1⟩ := own_rowW own1
  rw [HN.out] at hv1 hg1 hr1
  subst hv1
  have B2 := b1.trans (b2.mono b1.size)
  have hd02 := (hd0.step b2 (Nat.le_refl _)).up b2.size
  go_wp2_with fail
  go_at_call 26
  refine (HE w2 _ _ _ _ _ _ hd1 hd02).mono ?_
  rintro e w3 ⟨rfl, b3⟩
  have B3 := B2.trans (b3.mono B2.size)
  have hr3 : RowW w3 w2.heap.size a1 g1 0 (n * 3) z := ⟨hr1.row.carry b3 (Nat.le_refl _), fun c hc => by
    obtain ⟨_, h2, _⟩ := hr1.row.row c hc
    exact (World.frozen?_of_block (w := w2) (a := ⟨g1, 0 + c, none⟩) (b3.block g1 h2)).trans (hr1.fro c hc)⟩
  have s2 := b2.size
  have s3 := b3.size
  go_wp2_with fail
  go_at_call 28
  refine (HK w3 _ _ _ _ _ hr3).mono ?_
  rintro e w4 ⟨rfl, hO4, hr4⟩
  have c4 := Chg.of_only hO4
  have b4 : Below w1.heap.size w3 w4 := c4.below (by omega) (fun j hj => by have hj' : 0 < n ∧ j = g1 := hj; have := hg1 hj'.1; omega)
  have s4 := b4.size
  have B4 := B3.trans (b4.mono b1.size)
  have hd04 := ((hd0.step b2 (Nat.le_refl _)).step b3 s2).step b4 (Nat.le_refl _)
  clear hd1 hd02 hr1 hr3 hO4 c4
  go_wp2_with fail
  go_at_call 29
  refine (HH w4 _ _ _ _ hr4.row).mono ?_
  rintro e w4' ⟨rfl, hw4⟩
  subst hw4
  go_wp2_with fail
  go_at_call 20
  refine (HP w4 (hF.e.below B4)).mono ?_
  rintro e w5 ⟨b5, v2, rfl, own2⟩
  obtain ⟨a2, g2, k2, hv2, hd2⟩ := ds_own own2
  rw [HN.out] at hv2
  subst hv2
  have B5 := B4.trans (b5.mono B4.size)
  have s5 := b5.size
  have hd05 := (hd04.step b5 (by omega)).up (show w1.heap.size ≤ w5.heap.size by omega)
  go_wp2_with fail
  go_at_call 26
  refine (HE w5 _ _ _ _ _ _ hd2 hd05).mono ?_
  rintro e w6 ⟨rfl, b6⟩
  have hr6 := (hr4.row.carry b5 (by omega)).carry b6 (by omega)
  have B6 := B5.trans (b6.mono B5.size)
  go_wp2_with fail
  go_at_call 29
  refine (HH w6 _ _ _ _ hr6).mono ?_
  rintro e w7 ⟨rfl, hw7⟩
  subst hw7
  go_wp2_with fail
  go_ret
  exact ⟨rfl, B6⟩
end Go.Proofs.YtjofkejfldmmlaaDoor
