/- The program's texts of deeds. -/
import Derived.Test.YtjofkejfldmmlaaDoorXc
namespace Go.Proofs.YtjofkejfldmmlaaDoor
open Go.RowKit Go.Deep

/-- How deeds of a kind are written: the word, how many numbers, up to which. -/
def wdB : Nat → ByteArray
  | 0 => ⟨#[103, 108, 117, 101]⟩
  | 1 => ⟨#[116, 105, 109, 101, 115]⟩
  | 2 => ⟨#[114, 105, 110, 103]⟩
  | 3 => ⟨#[112, 97, 114, 116]⟩
  | 4 => ⟨#[98, 97, 99, 107]⟩
  | _ => ⟨#[]⟩
def wnN : Nat → Nat
  | 0 => 1
  | 1 => 1
  | 3 => 2
  | _ => 0
def whN : Nat → Nat
  | 0 => 9
  | 1 => 9
  | 3 => 99
  | _ => 0
theorem wdB_size (k : Nat) : (wdB k).size ≤ 5 := by
  unfold wdB
  split <;> decide
theorem whN_le (k : Nat) : whN k ≤ 99 := by
  unfold whN
  split <;> omega
theorem wnN_le (k : Nat) : wnN k ≤ 2 := by
  unfold wnN
  split <;> omega
def chkD (k c : Nat) (x : Int) : Bool := decide (x < 0) || (decide ((whN k : Int) < x) || (!decide (c < wnN k) && !(x == 0)))
def txL (k c : Nat) (x : Int) (t : List UInt8) : List UInt8 := if c < wnN k then t ++ (32 :: numL x.toNat) else t
theorem deed_chk {k : Nat} {a b : Int} (h : chkD k 0 a = true ∨ chkD k 1 b = true) : deedL ⟨k, a, b⟩ = [] := by
  rcases deed_cases ⟨k, a, b⟩ with h0 | ⟨x, hx, e, _⟩ | ⟨x, hx, e, _⟩ | ⟨e, _⟩ | ⟨x, y, hx, hy, e, _⟩ | ⟨e, _⟩
  · exact h0
  all_goals
    exfalso
    have e1 := congrArg Dd.k e
    have e2 := congrArg Dd.a e
    have e3 := congrArg Dd.b e
    dsimp only at e1 e2 e3
    clear e
    subst e2 e3
    have hk5 : k = 0 ∨ k = 1 ∨ k = 2 ∨ k = 3 ∨ k = 4 := by omega
    rcases hk5 with rfl | rfl | rfl | rfl | rfl
    all_goals
      first
        | omega
        | (simp [chkD, whN, wnN] at h; done)
        | (simp [chkD, whN, wnN] at h; omega)
theorem deed_txt {k : Nat} {a b : Int} (hk : k < 5) (h0 : chkD k 0 a = false) (h1 : chkD k 1 b = false) : deedL ⟨k, a, b⟩ = txL k 1 b (txL k 0 a (wdB k).data.toList) := by
  rcases (by omega : k = 0 ∨ k = 1 ∨ k = 2 ∨ k = 3 ∨ k = 4) with rfl | rfl | rfl | rfl | rfl
  · simp [chkD, whN, wnN] at h0 h1
    obtain ⟨A, rfl⟩ : ∃ A : Nat, a = (A : Int) := ⟨a.toNat, by omega⟩
    obtain rfl : b = 0 := h1.2.2
    exact deed_glue (by omega)
  · simp [chkD, whN, wnN] at h0 h1
    obtain ⟨A, rfl⟩ : ∃ A : Nat, a = (A : Int) := ⟨a.toNat, by omega⟩
    obtain rfl : b = 0 := h1.2.2
    exact deed_times (by omega)
  · simp [chkD, whN, wnN] at h0 h1
    obtain rfl : a = 0 := h0.2.2
    obtain rfl : b = 0 := h1.2.2
    exact deed_ring
  · simp [chkD, whN, wnN] at h0 h1
    obtain ⟨A, rfl⟩ : ∃ A : Nat, a = (A : Int) := ⟨a.toNat, by omega⟩
    obtain ⟨B, rfl⟩ : ∃ B : Nat, b = (B : Int) := ⟨b.toNat, by omega⟩
    refine (deed_part (by omega) (by omega)).trans ?_
    show _ = ([112, 97, 114, 116] ++ (32 :: numL A)) ++ (32 :: numL B)
    simp
  · simp [chkD, whN, wnN] at h0 h1
    obtain rfl : a = 0 := h0.2.2
    obtain rfl : b = 0 := h1.2.2
    exact deed_back
def WordsAt (w : World) (b : Nat) : Prop := b < w.heap.size ∧ ∀ j, j < 5 → w.cell? ⟨b, j * 3, none⟩ = some (.string (wdB j)) ∧ w.cell? ⟨b, j * 3 + 1, none⟩ = some (.int .i64 (wnN j : Nat)) ∧ w.cell? ⟨b, j * 3 + 2, none⟩ = some (.int .i64 (whN j : Nat))
theorem WordsAt.step {w w' : World} {b B : Nat} (h : WordsAt w b) (hb : Below B w w') (hB : b < B) (hs : b < w'.heap.size) : WordsAt w' b :=
  ⟨hs, fun j hj => by
    obtain ⟨h1, h2, h3⟩ := h.2 j hj
    exact ⟨by rw [hb.cell (p := ⟨b, j * 3, none⟩) hB]; exact h1, by rw [hb.cell (p := ⟨b, j * 3 + 1, none⟩) hB]; exact h2, by rw [hb.cell (p := ⟨b, j * 3 + 2, none⟩) hB]; exact h3⟩⟩
set_option maxRecDepth 100000 in
theorem wordings_any (w : World) : Calls Tryd.prog 33 #[] w fun e w' => ∃ b, e = .returned (.slice (some ⟨b, 0, none⟩) 5 5) ∧ w.heap.size ≤ b ∧ Below w.heap.size w w' ∧ WordsAt w' b := by
  have hX := BoxN.start w #[.string ⟨#[103, 108, 117, 101]⟩, .int .i64 1, .int .i64 9, .string ⟨#[116, 105, 109, 101, 115]⟩, .int .i64 1, .int .i64 9, .string ⟨#[114, 105, 110, 103]⟩, .int .i64 0, .int .i64 0, .string ⟨#[112, 97, 114, 116]⟩, .int .i64 2, .int .i64 99, .string ⟨#[98, 97, 99, 107]⟩, .int .i64 0, .int .i64 0] 59
  go_enter Tryd.func33, Tryd.ntmps33
  go_wp2_with fail
  go_ret
  refine ⟨w.heap.size, rfl, Nat.le_refl _, hX.below, by simp, fun j hj => ?_⟩
  rcases (by omega : j = 0 ∨ j = 1 ∨ j = 2 ∨ j = 3 ∨ j = 4) with rfl | rfl | rfl | rfl | rfl
  · exact ⟨hX.cell 0 rfl, hX.cell 1 rfl, hX.cell 2 rfl⟩
  · exact ⟨hX.cell 3 rfl, hX.cell 4 rfl, hX.cell 5 rfl⟩
  · exact ⟨hX.cell 6 rfl, hX.cell 7 rfl, hX.cell 8 rfl⟩
  · exact ⟨hX.cell 9 rfl, hX.cell 10 rfl, hX.cell 11 rfl⟩
  · exact ⟨hX.cell 12 rfl, hX.cell 13 rfl, hX.cell 14 rfl⟩
set_option maxRecDepth 100000 in
set_option maxHeartbeats 2000000 in
theorem dtext_kind {k a b : Int} {w : World} (hk : k < 0 ∨ 5 ≤ k) :
    Calls Tryd.prog 11 #[.agg #[.int .i64 k, .int .i64 a, .int .i64 b]] w fun e w' => e = .returned (.string ⟨#[]⟩) ∧ Below w.heap.size w w' := by
  have hX := BoxN.start w #[.int .i64 k, .int .i64 a, .int .i64 b] 24
  have bw := hX.below
  go_enter Tryd.func11, Tryd.ntmps11
  go_wp2_with fail
  generalize w.alloc (.cells #[.int .i64 k, .int .i64 a, .int .i64 b] 24) = W at hX bw ⊢
  go_at_call 33
  refine (wordings_any _).mono ?_
  rintro e w1 ⟨b1, rfl, _, hb, _⟩
  have q0 := (hX.step hb).cell 0 rfl
  have B1 := bw.trans (hb.mono bw.size)
  clear hX
  by_cases h0 : k < 0
  · go_wp2_with fail
    go_ret
    exact ⟨rfl, B1⟩
  · have h5 : 5 ≤ k := by omega
    go_wp2_with fail
    go_ret
    exact ⟨rfl, B1⟩
set_option maxRecDepth 100000 in
set_option maxHeartbeats 4000000 in
theorem dtext_in {k : Nat} {a b : Int} {w : World} (hk : k < 5) :
    Calls Tryd.prog 11 #[.agg #[.int .i64 (k : Int), .int .i64 a, .int .i64 b]] w fun e w' => e = .returned (strV (deedL ⟨k, a, b⟩)) ∧ Below w.heap.size w w' := by
  have hX := BoxN.start w #[.int .i64 (k : Int), .int .i64 a, .int .i64 b] 24
  have bw := hX.below
  go_enter Tryd.func11, Tryd.ntmps11
  go_wp2_with fail
  generalize w.alloc (.cells #[.int .i64 (k : Int), .int .i64 a, .int .i64 b] 24) = W at hX bw ⊢
  go_at_call 33
  refine (wordings_any _).mono ?_
  rintro e w1 ⟨b1, rfl, hb1, hb, hW⟩
  have hX1 := hX.step hb
  have q0 := hX1.cell 0 rfl
  have q1 := hX1.cell 1 rfl
  have q2 := hX1.cell 2 rfl
  have B1 := bw.trans (hb.mono bw.size)
  have h0 : ¬ (k : Int) < 0 := by omega
  have h5 : (k : Int) < 5 := by omega
  obtain ⟨c0, c1, c2⟩ := hW.2 k hk
  have hs1 : w.heap.size < w1.heap.size := World.block_lt_of_cell? w1 ⟨w.heap.size, 0, none⟩ q0
  clear hX hX1
  go_wp2_with fail
  have Y := BoxN.start w1 #[.string (wdB k), .int .i64 (wnN k : Nat), .int .i64 (whN k : Nat)] 59
  have Z := BoxN.start (w1.alloc (.cells #[.string (wdB k), .int .i64 (wnN k : Nat), .int .i64 (whN k : Nat)] 59)) #[.int .i64 a, .int .i64 b] 3
  have r0 := (Y.step Z.below).cell 1 rfl
  have r1 := (Y.step Z.below).cell 2 rfl
  have z0 := Z.cell 0 rfl
  have z1 := Z.cell 1 rfl
  have B3 := B1.trans ((Y.below.trans (Z.below.mono Y.below.size)).mono B1.size)
  have es : (w1.alloc (.cells #[.string (wdB k), .int .i64 (wnN k : Nat), .int .i64 (whN k : Nat)] 59)).heap.size = w1.heap.size + 1 := by simp
  rw [es] at z0 z1
  have z2 : w1.heap.size + 1 < ((w1.alloc (.cells #[.string (wdB k), .int .i64 (wnN k : Nat), .int .i64 (whN k : Nat)] 59)).alloc (.cells #[.int .i64 a, .int .i64 b] 3)).heap.size := by simp
  generalize (w1.alloc (.cells #[.string (wdB k), .int .i64 (wnN k : Nat), .int .i64 (whN k : Nat)] 59)).alloc (.cells #[.int .i64 a, .int .i64 b] 3) = V at r0 r1 z0 z1 z2 B3 ⊢
  clear Y Z es c0 c1 c2 q0 q1 q2 hW hb
  have hw5 := wdB_size k
  have hn2 := wnN_le k
  have hh9 := whN_le k
  obtain ⟨N, hN⟩ : ∃ N, wnN k = N := ⟨_, rfl⟩
  obtain ⟨H, hH⟩ : ∃ H, whN k = H := ⟨_, rfl⟩
  have HN := Lib.hid hN
  have HH := Lib.hid hH
  rw [hN] at r0 hn2
  rw [hH] at r1 hh9
  clear hN hH
  go_loopw [5, 33] (fun t i wr => ∃ (c : Nat) (T : ByteArray), i = .int .i64 (c : Int) ∧ t = .string T ∧ wr = V ∧ Hid ((c = 0 ∧ T = wdB k) ∨ (c = 1 ∧ chkD k 0 a = false ∧ T.data.toList = txL k 0 a (wdB k).data.toList) ∨ (c = 2 ∧ chkD k 0 a = false ∧ chkD k 1 b = false ∧ T.data.toList = txL k 1 b (txL k 0 a (wdB k).data.toList)))) (fun _ i _ => 2 - (intOf i).toNat)
  case atStart => exact ⟨0, wdB k, rfl, rfl, by first | rfl | trivial, .inl ⟨rfl, rfl⟩⟩
  case round =>
    obtain ⟨c, T, rfl, rfl, hwr, hR⟩ := hrel
    rw [hwr]
    rcases hR.out with ⟨rfl, rfl⟩ | ⟨rfl, hc0, hT⟩ | ⟨rfl, hc0, hc1, hT⟩
    · clear hR
      by_cases n0 : a < 0
      · have hch : chkD k 0 a = true := by unfold chkD; rw [decide_eq_true n0]; rfl
        go_wp2_with fail
        go_returns
        exact ⟨by rw [deed_chk (.inl hch)]; rfl, B3⟩
      by_cases n1 : (H : Int) < a
      · have hch : chkD k 0 a = true := by unfold chkD; rw [HH.out, decide_eq_true n1]; simp
        go_wp2_with fail
        go_returns
        exact ⟨by rw [deed_chk (.inl hch)]; rfl, B3⟩
      by_cases n2 : 0 < N
      · have n2' : (0 : Int) < (N : Int) := by omega
        have hch : Hid (chkD k 0 a = false) := by show _ = _; unfold chkD; rw [HH.out, HN.out, decide_eq_false n0, decide_eq_false n1, decide_eq_true n2]; rfl
        obtain ⟨X, hX9, rfl⟩ : ∃ X : Nat, X ≤ 99 ∧ a = (X : Int) := ⟨(a).toNat, by omega, by omega⟩
        obtain ⟨tX, eX, sX, lX⟩ := num_text hX9
        have LX := itoa_small X hX9
        rw [eX] at LX
        clear eX
        go_wp2_with fail
        go_at_call 34
        refine (LX _).mono ?_
        rintro e w9 ⟨rfl, rfl⟩
        go_wp2_with fail
        exact ⟨⟨1, _, rfl, rfl, by first | rfl | trivial, .inr (.inl ⟨rfl, hch.out, by rw [app_data, app_data, lX]; unfold txL; rw [HN.out, if_pos n2]; rfl⟩)⟩, by simp [intOf]⟩
      · have n2' : ¬ (0 : Int) < (N : Int) := by omega
        by_cases n3 : a = 0
        · subst n3
          have hch : Hid (chkD k 0 0 = false) := by show _ = _; unfold chkD; rw [HH.out, HN.out, decide_eq_false n0, decide_eq_false n1, decide_eq_false n2]; rfl
          go_wp2_with fail
          exact ⟨⟨1, _, rfl, rfl, by first | rfl | trivial, .inr (.inl ⟨rfl, hch.out, by unfold txL; rw [HN.out, if_neg n2]⟩)⟩, by simp [intOf]⟩
        · have hch : chkD k 0 a = true := by unfold chkD; rw [HH.out, HN.out, decide_eq_false n0, decide_eq_false n1, decide_eq_false n2, beq_eq_false_iff_ne.2 n3]; rfl
          have n3' : (a != 0) = true := bne_iff_ne.2 n3
          go_wp2_with fail
          go_returns
          exact ⟨by rw [deed_chk (.inl hch)]; rfl, B3⟩
    · have HT := Lib.hid hT
      have hT7 : T.size ≤ 9 := by
        unfold chkD at hc0
        rw [size_data, hT]
        unfold txL
        split
        · next hn0 =>
          rw [List.length_append, List.length_cons, ← size_data]
          have hlen : (numL a.toNat).length ≤ 2 := by
            simp at hc0
            exact numL_len (by have := whN_le k; omega)
          omega
        · rw [← size_data]; omega
      have HC0 := Lib.hid hc0
      clear hR hT hc0
      by_cases n0 : b < 0
      · have hch : chkD k 1 b = true := by unfold chkD; rw [decide_eq_true n0]; rfl
        go_wp2_with fail
        go_returns
        exact ⟨by rw [deed_chk (.inr hch)]; rfl, B3⟩
      by_cases n1 : (H : Int) < b
      · have hch : chkD k 1 b = true := by unfold chkD; rw [HH.out, decide_eq_true n1]; simp
        go_wp2_with fail
        go_returns
        exact ⟨by rw [deed_chk (.inr hch)]; rfl, B3⟩
      by_cases n2 : 1 < N
      · have n2' : (1 : Int) < (N : Int) := by omega
        have hch : Hid (chkD k 1 b = false) := by show _ = _; unfold chkD; rw [HH.out, HN.out, decide_eq_false n0, decide_eq_false n1, decide_eq_true n2]; rfl
        obtain ⟨X, hX9, rfl⟩ : ∃ X : Nat, X ≤ 99 ∧ b = (X : Int) := ⟨(b).toNat, by omega, by omega⟩
        obtain ⟨tX, eX, sX, lX⟩ := num_text hX9
        have LX := itoa_small X hX9
        rw [eX] at LX
        clear eX
        go_wp2_with fail
        go_at_call 34
        refine (LX _).mono ?_
        rintro e w9 ⟨rfl, rfl⟩
        go_wp2_with fail
        exact ⟨⟨2, _, rfl, rfl, by first | rfl | trivial, .inr (.inr ⟨rfl, HC0.out, hch.out, by rw [app_data, app_data, lX, HT.out]; generalize txL k 0 a (wdB k).data.toList = L0; unfold txL; rw [HN.out, if_pos n2]; rfl⟩)⟩, by simp [intOf]⟩
      · have n2' : ¬ (1 : Int) < (N : Int) := by omega
        by_cases n3 : b = 0
        · subst n3
          have hch : Hid (chkD k 1 0 = false) := by show _ = _; unfold chkD; rw [HH.out, HN.out, decide_eq_false n0, decide_eq_false n1, decide_eq_false n2]; rfl
          go_wp2_with fail
          exact ⟨⟨2, _, rfl, rfl, by first | rfl | trivial, .inr (.inr ⟨rfl, HC0.out, hch.out, by rw [HT.out]; generalize txL k 0 a (wdB k).data.toList = L0; unfold txL; rw [HN.out, if_neg n2]⟩)⟩, by simp [intOf]⟩
        · have hch : chkD k 1 b = true := by unfold chkD; rw [HH.out, HN.out, decide_eq_false n0, decide_eq_false n1, decide_eq_false n2, beq_eq_false_iff_ne.2 n3]; rfl
          have n3' : (b != 0) = true := bne_iff_ne.2 n3
          go_wp2_with fail
          go_returns
          exact ⟨by rw [deed_chk (.inr hch)]; rfl, B3⟩
    · have HT := Lib.hid hT
      clear hR hT
      go_wp2_with fail
      go_returns
      refine ⟨?_, B3⟩
      unfold strV
      rw [deed_txt hk hc0 hc1]
      exact congrArg (fun t => Ending.returned (.string t)) (ba_eq HT.out)

/-- The program's text of whatever deed. -/
theorem DeedText_any (d : Dd) (w : World) : Calls Tryd.prog 11 #[deedV d] w fun e w' => e = .returned (strV (deedL d)) ∧ Below w.heap.size w w' := by
  obtain ⟨k, a, b⟩ := d
  by_cases h : k < 0 ∨ 5 ≤ k
  · have e : deedL ⟨k, a, b⟩ = [] := by
      rcases deed_cases ⟨k, a, b⟩ with h0 | ⟨x, hx, e, _⟩ | ⟨x, hx, e, _⟩ | ⟨e, _⟩ | ⟨x, y, hx, hy, e, _⟩ | ⟨e, _⟩
      · exact h0
      all_goals
        exfalso
        have e1 := congrArg Dd.k e
        dsimp only at e1
        omega
    refine (dtext_kind h).mono ?_
    rintro e' w' ⟨rfl, hb⟩
    exact ⟨by rw [e]; rfl, hb⟩
  · obtain ⟨K, rfl⟩ : ∃ K : Nat, k = (K : Int) := ⟨k.toNat, by omega⟩
    exact dtext_in (by omega)
end Go.Proofs.YtjofkejfldmmlaaDoor
