import Derived.Test.YtmchgclaeipoeaaZKb
namespace Go.Proofs.Ytmchgclaeipoeaa
open Go.RowKit Go.Deep Go.Lib

def EndAll (n : Nat) : Prop := ∀ (s : ByteArray) (k : Nat) (x : Int), x = (k : Int) → s.size ≤ k + n → s.size ≤ 4611686018427387904 → ∀ w, Calls Try.prog 44 #[.string s, .int .i64 x] w fun e w' => e = .returned (.int .i64 (endF s.data.toList k)) ∧ w' = w
theorem at_size {s : ByteArray} {k : Nat} (h : k < s.size) : ∃ c, s.data.toList[k]? = some c ∧ s[k] = c := ⟨s[k], at_data h, rfl⟩

set_option maxRecDepth 100000 in
set_option maxHeartbeats 4000000 in
theorem l10End_past (s : ByteArray) (k : Nat) (x : Int) (hx : x = (k : Int)) (h : s.size ≤ k) (w : World) : Calls Try.prog 44 #[.string s, .int .i64 x] w fun e w' => e = .returned (.int .i64 (endF s.data.toList k)) ∧ w' = w := by
  rw [end_past h]
  subst hx
  have h' : (s.size : Int) ≤ k := by omega
  go_enter Try.func44, Try.ntmps44
  go_wp2_with fail
  go_returns
  exact ⟨rfl, rfl⟩
set_option maxRecDepth 100000 in
set_option maxHeartbeats 4000000 in
theorem l10End_step {n : Nat} (IH : EndAll n) : EndAll (n + 1) := by
  intro s k x hx hn hsz w
  by_cases hk : s.size ≤ k
  · exact l10End_past s k x hx hk w
  · subst hx
    have hlt : k < s.size := by omega
    have hlt' : ¬ (s.size : Int) ≤ k := by omega
    have hlt2 : (k : Int) < s.size := by omega
    have hk0 : (k : Int) ≤ 4611686018427387904 := by omega
    obtain ⟨c, hl, hc⟩ := at_size hlt
    have HL := Lib.hid hl
    clear hl
    by_cases h97 : c = 97
    · subst h97
      go_enter Try.func44, Try.ntmps44
      go_wp2_with fail
      go_returns
      exact ⟨by rw [end_one HL.out (.inl rfl)]; first | rfl | (congr 2; go_num) | (show _ = Ending.returned (Value.int .i64 _); congr 2; go_num), rfl⟩
    by_cases h98 : c = 98
    · subst h98
      go_enter Try.func44, Try.ntmps44
      go_wp2_with fail
      go_returns
      exact ⟨by rw [end_one HL.out (.inr (.inl rfl))]; first | rfl | (congr 2; go_num) | (show _ = Ending.returned (Value.int .i64 _); congr 2; go_num), rfl⟩
    by_cases h99 : c = 99
    · subst h99
      go_enter Try.func44, Try.ntmps44
      go_wp2_with fail
      go_returns
      exact ⟨by rw [end_one HL.out (.inr (.inr (.inl rfl)))]; first | rfl | (congr 2; go_num) | (show _ = Ending.returned (Value.int .i64 _); congr 2; go_num), rfl⟩
    by_cases h48 : c = 48
    · subst h48
      go_enter Try.func44, Try.ntmps44
      go_wp2_with fail
      go_returns
      exact ⟨by rw [end_one HL.out (.inr (.inr (.inr (.inl rfl))))]; first | rfl | (congr 2; go_num) | (show _ = Ending.returned (Value.int .i64 _); congr 2; go_num), rfl⟩
    by_cases h49 : c = 49
    · subst h49
      go_enter Try.func44, Try.ntmps44
      go_wp2_with fail
      go_returns
      exact ⟨by rw [end_one HL.out (.inr (.inr (.inr (.inr rfl))))]; first | rfl | (congr 2; go_num) | (show _ = Ending.returned (Value.int .i64 _); congr 2; go_num), rfl⟩
    by_cases h33 : c = 33
    · subst h33
      go_enter Try.func44, Try.ntmps44
      go_wp2_with fail
      go_at_call 44
      refine (IH s (k + 1) _ (by go_num) (by omega) hsz w).mono ?_
      rintro e w1 ⟨rfl, rfl⟩
      rw [← end_neg HL.out]
      go_wp2_with fail
      go_returns
      exact ⟨rfl, rfl⟩
    by_cases h40 : c = 40
    · subst h40
      go_enter Try.func44, Try.ntmps44
      go_wp2_with fail
      go_at_call 44
      refine (IH s (k + 1) _ (by go_num) (by omega) hsz w).mono ?_
      rintro e w1 ⟨rfl, rfl⟩
      rcases end_cases s.data.toList (k + 1) with ⟨e1, e2⟩ | ⟨f, m, e1, -, e3, e4, e5⟩
      · rw [e1]
        have HN := Lib.hid (end_none (pair_no1 HL.out e2))
        clear e1 e2
        go_wp2_with fail
        go_returns
        exact ⟨by rw [HN.out]; first | rfl | done, rfl⟩
      · rw [e1]
        have e4' : m ≤ s.size := e4
        have em0 : (m : Int) ≤ 4611686018427387904 := by omega
        have em1 : ¬ (m : Int) < 0 := by omega
        have HE5 := Lib.hid e5
        clear e1 e4 e5
        by_cases hm : s.size ≤ m
        · have hm' : (s.size : Int) ≤ m := by omega
          have HN := Lib.hid (end_none (pair_no2 HL.out HE5.out hm))
          go_wp2_with fail
          go_returns
          exact ⟨by rw [HN.out]; first | rfl | done, rfl⟩
        · have hmlt : m < s.size := by omega
          have hm' : ¬ (s.size : Int) ≤ m := by omega
          have hm2 : (m : Int) < s.size := by omega
          obtain ⟨o, hlo, hco⟩ := at_size hmlt
          have HLO := Lib.hid hlo
          clear hlo
          by_cases ho : o ≠ 38 ∧ o ≠ 124
          · have HN := Lib.hid (end_none (pair_no3 HL.out HE5.out HLO.out ho.1 ho.2))
            have n38 : ¬ (o.toNat : Int) = 38 := byte_ne ho.1
            have n124 : ¬ (o.toNat : Int) = 124 := byte_ne ho.2
            have b38 : ((o.toNat : Int) != 38) = true := bne_iff_ne.2 n38
            have b124 : ((o.toNat : Int) != 124) = true := bne_iff_ne.2 n124
            clear ho
            go_wp2_with fail
            go_returns
            exact ⟨by rw [HN.out]; first | rfl | done, rfl⟩
          · have HO : Hid (o = 38 ∨ o = 124) := by show _ ∨ _; by_cases h1 : o = 38; exact .inl h1; exact .inr (by by_cases h2 : o = 124; exact h2; exact absurd ⟨h1, h2⟩ ho)
            clear ho
            have fin : ∀ (W : World), (∀ g, ∃ y, opOf o f g = some y) → True := fun _ _ => trivial
            clear fin
            rcases HO.out with rfl | rfl
            · go_wp2_with fail
              go_at_call 44
              refine (IH s (m + 1) _ (by go_num) (by omega) hsz w1).mono ?_
              rintro e w2 ⟨rfl, rfl⟩
              rcases end_cases s.data.toList (m + 1) with ⟨d1, d2⟩ | ⟨g, d, d1, -, d3, d4, d5⟩
              · rw [d1]
                have HN := Lib.hid (end_none (pair_no4 HL.out HE5.out HLO.out d2))
                clear d1 d2
                go_wp2_with fail
                go_returns
                exact ⟨by rw [HN.out]; first | rfl | done, rfl⟩
              · rw [d1]
                have d4' : d ≤ s.size := d4
                have dm0 : (d : Int) ≤ 4611686018427387904 := by omega
                have dm1 : ¬ (d : Int) < 0 := by omega
                have HD5 := Lib.hid d5
                clear d1 d4 d5
                by_cases hd : s.size ≤ d
                · have hd' : (s.size : Int) ≤ d := by omega
                  have HN := Lib.hid (end_none (pair_no5 HL.out HE5.out HLO.out HD5.out (by rw [List.getElem?_eq_none (by exact hd)]; exact fun e => by cases e)))
                  go_wp2_with fail
                  go_returns
                  exact ⟨by rw [HN.out]; first | rfl | done, rfl⟩
                · have hdlt : d < s.size := by omega
                  have hd' : ¬ (s.size : Int) ≤ d := by omega
                  have hd2 : (d : Int) < s.size := by omega
                  obtain ⟨b, hlb, hcb⟩ := at_size hdlt
                  have HLB := Lib.hid hlb
                  clear hlb
                  by_cases hb : b = 41
                  · subst hb
                    have HY := Lib.hid (end_some (pair_yes HL.out HE5.out HLO.out (op_and f g) HD5.out HLB.out))
                    have HZ : Hid (endF s.data.toList k = ((d + 1 : Nat) : Int)) := by
                      show _ = _
                      have r1 := drop_text (pair_yes HL.out HE5.out HLO.out (op_and f g) HD5.out HLB.out)
                      have r2 := congrArg List.length r1.1
                      rw [List.length_drop, List.length_drop] at r2
                      have r3 := r1.2
                      rw [HY.out]
                      have r4 : s.data.toList.length = s.size := rfl
                      omega
                    go_wp2_with fail
                    go_returns
                    exact ⟨by rw [HZ.out]; first | rfl | (congr 2; go_num) | (show _ = Ending.returned (Value.int .i64 _); congr 2; go_num), rfl⟩
                  · have HN := Lib.hid (end_none (pair_no5 HL.out HE5.out HLO.out HD5.out (by rw [HLB.out]; exact fun e => hb (Option.some.inj e))))
                    have n41 : ¬ (b.toNat : Int) = 41 := byte_ne hb
                    have b41 : ((b.toNat : Int) != 41) = true := bne_iff_ne.2 n41
                    clear hb
                    go_wp2_with fail
                    go_returns
                    exact ⟨by rw [HN.out]; first | rfl | done, rfl⟩
            · go_wp2_with fail
              go_at_call 44
              refine (IH s (m + 1) _ (by go_num) (by omega) hsz w1).mono ?_
              rintro e w2 ⟨rfl, rfl⟩
              rcases end_cases s.data.toList (m + 1) with ⟨d1, d2⟩ | ⟨g, d, d1, -, d3, d4, d5⟩
              · rw [d1]
                have HN := Lib.hid (end_none (pair_no4 HL.out HE5.out HLO.out d2))
                clear d1 d2
                go_wp2_with fail
                go_returns
                exact ⟨by rw [HN.out]; first | rfl | done, rfl⟩
              · rw [d1]
                have d4' : d ≤ s.size := d4
                have dm0 : (d : Int) ≤ 4611686018427387904 := by omega
                have dm1 : ¬ (d : Int) < 0 := by omega
                have HD5 := Lib.hid d5
                clear d1 d4 d5
                by_cases hd : s.size ≤ d
                · have hd' : (s.size : Int) ≤ d := by omega
                  have HN := Lib.hid (end_none (pair_no5 HL.out HE5.out HLO.out HD5.out (by rw [List.getElem?_eq_none (by exact hd)]; exact fun e => by cases e)))
                  go_wp2_with fail
                  go_returns
                  exact ⟨by rw [HN.out]; first | rfl | done, rfl⟩
                · have hdlt : d < s.size := by omega
                  have hd' : ¬ (s.size : Int) ≤ d := by omega
                  have hd2 : (d : Int) < s.size := by omega
                  obtain ⟨b, hlb, hcb⟩ := at_size hdlt
                  have HLB := Lib.hid hlb
                  clear hlb
                  by_cases hb : b = 41
                  · subst hb
                    have HY := Lib.hid (end_some (pair_yes HL.out HE5.out HLO.out (op_or f g) HD5.out HLB.out))
                    have HZ : Hid (endF s.data.toList k = ((d + 1 : Nat) : Int)) := by
                      show _ = _
                      have r1 := drop_text (pair_yes HL.out HE5.out HLO.out (op_or f g) HD5.out HLB.out)
                      have r2 := congrArg List.length r1.1
                      rw [List.length_drop, List.length_drop] at r2
                      have r3 := r1.2
                      rw [HY.out]
                      have r4 : s.data.toList.length = s.size := rfl
                      omega
                    go_wp2_with fail
                    go_returns
                    exact ⟨by rw [HZ.out]; first | rfl | (congr 2; go_num) | (show _ = Ending.returned (Value.int .i64 _); congr 2; go_num), rfl⟩
                  · have HN := Lib.hid (end_none (pair_no5 HL.out HE5.out HLO.out HD5.out (by rw [HLB.out]; exact fun e => hb (Option.some.inj e))))
                    have n41 : ¬ (b.toNat : Int) = 41 := byte_ne hb
                    have b41 : ((b.toNat : Int) != 41) = true := bne_iff_ne.2 n41
                    clear hb
                    go_wp2_with fail
                    go_returns
                    exact ⟨by rw [HN.out]; first | rfl | done, rfl⟩
    have HN := Lib.hid (end_bad HL.out h97 h98 h99 h48 h49 h33 h40)
    have n97 : ¬ (c.toNat : Int) = 97 := byte_ne h97
    have n98 : ¬ (c.toNat : Int) = 98 := byte_ne h98
    have n99 : ¬ (c.toNat : Int) = 99 := byte_ne h99
    have n48 : ¬ (c.toNat : Int) = 48 := byte_ne h48
    have n49 : ¬ (c.toNat : Int) = 49 := byte_ne h49
    have n33 : ¬ (c.toNat : Int) = 33 := byte_ne h33
    have n40 : ¬ (c.toNat : Int) = 40 := byte_ne h40
    clear h97 h98 h99 h48 h49 h33 h40
    go_enter Try.func44, Try.ntmps44
    go_wp2_with fail
    go_returns
    exact ⟨by rw [HN.out]; first | rfl | done, rfl⟩
theorem l10End_zero : EndAll 0 := fun s k x hx hn _ w => l10End_past s k x hx hn w
theorem l10End_all : ∀ n, EndAll n
  | 0 => l10End_zero
  | n + 1 => l10End_step (l10End_all n)
theorem l10End_any (s : ByteArray) (k : Nat) (x : Int) (hx : x = (k : Int)) (hsz : s.size ≤ 4611686018427387904) (w : World) : Calls Try.prog 44 #[.string s, .int .i64 x] w fun e w' => e = .returned (.int .i64 (endF s.data.toList k)) ∧ w' = w :=
  l10End_all s.size s k x hx (by omega) hsz w
set_option maxHeartbeats 2000000 in
theorem spec_FormulaOk (s : ByteArray) (hsz : s.size ≤ 4611686018427387904) (w : World) : Calls Try.prog 20 #[.string s] w fun e w' => e = .returned (.bool (formB s.data.toList)) ∧ w' = w := by
  have HF := Lib.hid (form_end (s := s.data.toList))
  have hln : s.data.toList.length = s.size := rfl
  rw [hln] at HF
  by_cases h60 : s.size ≤ 60
  · have h60' : (s.size : Int) ≤ 60 := by omega
    by_cases h0 : 0 < s.size
    · have h0' : (0 : Int) < s.size := by omega
      have HV : Hid (formB s.data.toList = decide (endF s.data.toList 0 = (s.size : Int))) := by show _ = _; rw [HF.out, decide_eq_true h60, decide_eq_true h0]; rfl
      clear HF hln
      go_enter Try.func20, Try.ntmps20
      go_wp2_with fail
      go_at_call 44
      refine (l10End_any s 0 0 rfl hsz w).mono ?_
      rintro e w1 ⟨rfl, rfl⟩
      generalize endF s.data.toList 0 = E at HV ⊢
      go_wp2_with fail
      go_returns
      exact ⟨by rw [HV.out]; rfl, rfl⟩
    · have h0' : ¬ (0 : Int) < s.size := by omega
      have HV : Hid (formB s.data.toList = false) := by show _ = _; rw [HF.out, decide_eq_false h0]; simp
      clear HF hln
      go_enter Try.func20, Try.ntmps20
      go_wp2_with fail
      go_returns
      exact ⟨by rw [HV.out]; rfl, rfl⟩
  · have h60' : ¬ (s.size : Int) ≤ 60 := by omega
    have HV : Hid (formB s.data.toList = false) := by show _ = _; rw [HF.out, decide_eq_false h60]; rfl
    clear HF hln
    go_enter Try.func20, Try.ntmps20
    go_wp2_with fail
    go_returns
    exact ⟨by rw [HV.out]; rfl, rfl⟩
end Go.Proofs.Ytmchgclaeipoeaa
