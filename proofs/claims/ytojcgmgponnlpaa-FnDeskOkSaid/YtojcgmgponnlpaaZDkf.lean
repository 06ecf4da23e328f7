import Derived.Test.YtojcgmgponnlpaaZDko
namespace Go.Proofs.Ytojcgmgponnlpaa
open Go.RowKit Go.Deep

theorem Dk.okB_some {D : Dk Lc} (h : ∀ c ∈ D.past, c.ok = true) : D.okB = (D.now.ok && decide (D.past.length ≤ 8)) := by
  unfold Dk.okB
  rw [List.all_eq_true.2 h, Bool.true_and]
theorem Dk.okB_not {D : Dk Lc} {c : Lc} (hc : c ∈ D.past) (h : c.ok = false) : D.okB = false := by
  unfold Dk.okB
  have : D.past.all Lc.ok = false := by
    rw [List.all_eq_false]
    exact ⟨c, hc, by rw [h]; decide⟩
  rw [this]
  rfl
theorem Dk.okB_now {D : Dk Lc} (h : D.now.ok = false) : D.okB = false := by
  unfold Dk.okB
  rw [h, Bool.and_false]
  rfl
theorem Dk.okB_long {D : Dk Lc} (h : ¬ D.past.length ≤ 8) : D.okB = false := by
  unfold Dk.okB
  rw [decide_eq_false h, Bool.and_false]
theorem take_ok {P : List Lc} {k : Nat} {c : Lc} (h : P[k]? = some c) (hc : c.ok = true) (hall : ∀ x ∈ P.take k, x.ok = true) : ∀ x ∈ P.take (k + 1), x.ok = true := by
  rw [List.take_add_one, h]
  intro x hx
  rcases List.mem_append.1 hx with hx | hx
  · exact hall x hx
  · obtain rfl : x = c := by simpa using hx
    exact hc
set_option maxRecDepth 100000 in
set_option maxHeartbeats 4000000 in
theorem spec_DeskOk {w : World} {B : Nat} {v : Value} {D : Dk Lc} (h : DeskAt w B v D) :
    Calls Try.prog 9 #[v] w fun e w' => e = .returned (.bool D.okB) ∧ Below w.heap.size w w' := by
  obtain ⟨ua, l, na, g, o, nc, pa, pg, po, pc, rfl, hL, hP, hn63⟩ := h
  obtain ⟨n, hn⟩ : ∃ n, D.past.length = n := ⟨_, rfl⟩
  have HN := Lib.hid hn
  rw [hn] at hn63 ⊢
  have X := BoxN.start w #[.slice ua D.now.m.n l.cap, .slice na D.now.k nc, .slice pa n pc] 29
  have b0 := X.below
  have hBw := hL.hB
  have HL := Lib.hid (hL.step b0)
  have HP := Lib.hid (hP.step b0 hBw)
  clear hL hP hn
  go_enter Try.func9, Try.ntmps9
  go_wp2_with fail
  generalize w.alloc (.cells #[.slice ua D.now.m.n l.cap, .slice na D.now.k nc, .slice pa n pc] 29) = W at X b0 HL HP ⊢
  have hXW := X.size
  go_loopw [3] (fun i wr => ∃ k : Nat, k ≤ n ∧ i = .int .i64 k ∧ Below W.heap.size W wr ∧ Hid (∀ c ∈ D.past.take k, c.ok = true)) (fun i _ => n - (RowKit.intOf i).toNat)
  case atStart => exact ⟨0, Nat.zero_le _, rfl, Below.refl _ _, fun c hc => absurd hc (by simp)⟩
  case round =>
    obtain ⟨k, hk, rfl, hB, hM⟩ := hrel
    have Y := X.step hB
    have q0 := Y.cell 0 rfl
    have q1 := Y.cell 1 rfl
    have q2 := Y.cell 2 rfl
    have hBW : B ≤ W.heap.size := by omega
    have hz := hB.size
    by_cases hlt : k < n
    · have hlt' : (k : Int) < n := by omega
      have hk0 : (0 : Int) ≤ k := by omega
      obtain ⟨c, hc⟩ : ∃ c, D.past[k]? = some c := ⟨_, List.getElem?_eq_getElem (by rw [HN.out]; exact hlt)⟩
      have HC := Lib.hid hc
      obtain ⟨rfl, hg, _, _, c0, c1, ua', l', na', g', o', nc', rfl, rfl, hL'⟩ := (HP.out.step hB hBW) k c hc
      have HL' := Lib.hid hL'
      clear hc hL'
      go_wp2_with fail
      go_at_call 28
      refine (spec_LogicOk HL'.out).mono ?_
      rintro e w2 ⟨rfl, b2⟩
      have B2 := hB.trans (b2.mono hz)
      cases hok : logicB c.m c.k c.z with
      | false =>
        have HF : Hid (false = D.okB) := (Dk.okB_not (List.mem_of_getElem? HC.out) hok).symm
        clear hok q0 q1 q2 c0 c1
        go_wp2_with fail
        go_ret
        exact ⟨ret_bool HF.out, b0.trans (B2.mono (by omega))⟩
      | true =>
        have HT := Lib.hid (take_ok HC.out hok hM.out)
        clear hok q0 q1 q2 c0 c1
        go_wp2_with fail
        exact ⟨⟨k + 1, by omega, by go_num, B2, HT⟩, by simp [RowKit.intOf]; omega⟩
    · have hlt' : ¬ (k : Int) < n := by omega
      have HA : Hid (D.okB = (D.now.ok && decide (D.past.length ≤ 8))) := Dk.okB_some fun c hc => hM.out c (by rw [List.take_of_length_le (by have := HN.out; omega)]; exact hc)
      have HL2 := Lib.hid (HL.out.step hB)
      go_wp2_with fail
      go_at_call 28
      refine (spec_LogicOk HL2.out).mono ?_
      rintro e w2 ⟨rfl, b2⟩
      have B2 := hB.trans (b2.mono hz)
      have Y2 := Y.step b2
      clear q0 q1 q2
      have q2 := Y2.cell 2 rfl
      cases hok : logicB D.now.m D.now.k D.now.z with
      | false =>
        have HF : Hid (false = D.okB) := (Dk.okB_now hok).symm
        clear hok
        go_wp2_with fail
        go_ret
        exact ⟨ret_bool HF.out, b0.trans (B2.mono (by omega))⟩
      | true =>
        have HK := Lib.hid hok
        clear hok
        by_cases h8 : n ≤ 8
        · have h8' : (n : Int) ≤ 8 := by omega
          have HF : Hid (true = D.okB) := by
            show _ = _
            rw [HA.out, HN.out, decide_eq_true h8]
            unfold Lc.ok
            rw [HK.out]
            rfl
          go_wp2_with fail
          go_ret
          exact ⟨ret_bool HF.out, b0.trans (B2.mono (by omega))⟩
        · have h8' : ¬ (n : Int) ≤ 8 := by omega
          have HF : Hid (false = D.okB) := (Dk.okB_long (by rw [HN.out]; exact h8)).symm
          go_wp2_with fail
          go_ret
          exact ⟨ret_bool (by first | exact HF.out | (rw [decide_eq_false (by omega : ¬ (n : Int) ≤ 8)]; exact HF.out)), b0.trans (B2.mono (by omega))⟩
set_option maxRecDepth 100000 in
set_option maxHeartbeats 4000000 in
/-- The closure that asks whether a logic is none. -/
theorem DeskOk1_any {w : World} {B : Nat} {ua : Option Addr} {l : Lay} {m : Mx} {na : Option Addr} {g o k nc : Nat} {z : Nat → Int} (h : LogAt w B ua l m na g o k z) :
    Calls Try.prog 27 #[.agg #[.slice ua m.n l.cap, .slice na k nc]] w fun e w' => e = .returned (.bool (!logicB m k z)) ∧ Below w.heap.size w w' := by
  have X := BoxN.start w #[.slice ua m.n l.cap, .slice na k nc] 26
  have b0 := X.below
  have q0 := X.cell 0 rfl
  have q1 := X.cell 1 rfl
  have HL := Lib.hid (h.step b0)
  clear h
  go_enter Try.func27, Try.ntmps27
  go_wp2_with fail
  go_at_call 25
  refine (LogicOk_any HL.out).mono ?_
  rintro e w2 ⟨rfl, b2⟩
  have B2 := b0.trans (b2.mono b0.size)
  cases hok : logicB m k z with
  | false =>
    have HF : Hid (true = !logicB m k z) := by show _ = _; rw [hok]; rfl
    clear hok q0 q1
    go_wp2_with fail
    go_ret
    exact ⟨ret_bool HF.out, B2⟩
  | true =>
    have HF : Hid (false = !logicB m k z) := by show _ = _; rw [hok]; rfl
    clear hok q0 q1
    go_wp2_with fail
    go_ret
    exact ⟨ret_bool HF.out, B2⟩
/-- What IndexFunc finds: one that is none, or nothing. -/
def NoneIs (P : List Lc) (i : Int) : Prop := (0 ≤ i ∧ P.all Lc.ok = false) ∨ (i = -1 ∧ P.all Lc.ok = true)
abbrev noneF : Value := .func (.func 27) #[] #[]
set_option maxRecDepth 100000 in
set_option maxHeartbeats 4000000 in
theorem IndexFunc_none {w : World} {B : Nat} {a : Option Addr} {g o n cap : Nat} {P : List Lc} (h : PsAt w B a g o P) (hB : B ≤ w.heap.size) (hn : P.length = n) (hn63 : n ≤ 9223372036854775807) :
    Calls Try.prog 54 #[.slice a n cap, noneF] w fun e w' => ∃ i : Int, e = .returned (.int .i64 i) ∧ NoneIs P i ∧ Below w.heap.size w w' := by
  have HN := Lib.hid hn
  have HP := Lib.hid h
  clear h hn
  go_enter Try.func54, Try.ntmps54
  go_wp2_with fail
  go_loopw [8] (fun i wr => ∃ k : Nat, k ≤ n ∧ i = .int .i64 k ∧ Below w.heap.size w wr ∧ Hid (∀ c ∈ P.take k, c.ok = true)) (fun i _ => n - (RowKit.intOf i).toNat)
  case atStart => exact ⟨0, Nat.zero_le _, rfl, Below.refl _ _, fun c hc => absurd hc (by simp)⟩
  case round =>
    obtain ⟨k, hk, rfl, hB1, hM⟩ := hrel
    by_cases hlt : k < n
    · have hlt' : (k : Int) < n := by omega
      have hk0 : (0 : Int) ≤ k := by omega
      obtain ⟨c, hc⟩ : ∃ c, P[k]? = some c := ⟨_, List.getElem?_eq_getElem (by rw [HN.out]; exact hlt)⟩
      have HC := Lib.hid hc
      obtain ⟨rfl, hg, _, _, c0, c1, ua', l', na', g', o', nc', rfl, rfl, hL'⟩ := (HP.out.step hB1 hB) k c hc
      have HL' := Lib.hid hL'
      clear hc hL'
      go_wp2_with fail
      go_at_call 27
      refine (DeskOk1_any HL'.out).mono ?_
      rintro e w2 ⟨rfl, b2⟩
      have B2 := hB1.trans (b2.mono hB1.size)
      cases hok : logicB c.m c.k c.z with
      | false =>
        have HF : Hid (P.all Lc.ok = false) := by
          show _ = _
          rw [List.all_eq_false]
          exact ⟨c, List.mem_of_getElem? HC.out, by unfold Lc.ok; rw [hok]; decide⟩
        clear hok c0 c1
        go_wp2_with fail
        go_ret
        exact ⟨_, rfl, .inl ⟨hk0, HF.out⟩, B2⟩
      | true =>
        have HT := Lib.hid (take_ok HC.out hok hM.out)
        clear hok c0 c1
        go_wp2_with fail
        exact ⟨⟨k + 1, by omega, by go_num, B2, HT⟩, by simp [RowKit.intOf]; omega⟩
    · have hlt' : ¬ (k : Int) < n := by omega
      have HA : Hid (P.all Lc.ok = true) := List.all_eq_true.2 fun c hc => hM.out c (by rw [List.take_of_length_le (by have := HN.out; omega)]; exact hc)
      go_wp2_with fail
      go_ret
      exact ⟨_, rfl, .inr ⟨rfl, HA.out⟩, hB1⟩
set_option maxRecDepth 100000 in
set_option maxHeartbeats 4000000 in
theorem ContainsFunc_none {w : World} {B : Nat} {a : Option Addr} {g o n cap : Nat} {P : List Lc} (h : PsAt w B a g o P) (hB : B ≤ w.heap.size) (hn : P.length = n) (hn63 : n ≤ 9223372036854775807) :
    Calls Try.prog 26 #[.slice a n cap, noneF] w fun e w' => e = .returned (.bool (!P.all Lc.ok)) ∧ Below w.heap.size w w' := by
  have HI := IndexFunc_none (cap := cap) h hB hn hn63
  clear h hB hn
  go_enter Try.func26, Try.ntmps26
  go_wp2_with fail
  go_at_call 54
  refine HI.mono ?_
  rintro e w2 ⟨i, rfl, (⟨h0, h1⟩ | ⟨rfl, h1⟩), b2⟩
  · have H := Lib.hid h1
    clear h1
    go_wp2_with fail
    go_ret
    exact ⟨by rw [H.out]; rfl, b2⟩
  · have H := Lib.hid h1
    clear h1
    go_wp2_with fail
    go_ret
    exact ⟨by rw [H.out]; rfl, b2⟩
set_option maxRecDepth 100000 in
set_option maxHeartbeats 4000000 in
theorem DeskOk_any {w : World} {B : Nat} {v : Value} {D : Dk Lc} (h : DeskAt w B v D) :
    Calls Try.prog 8 #[v] w fun e w' => e = .returned (.bool D.okB) ∧ Below w.heap.size w w' := by
  obtain ⟨ua, l, na, g, o, nc, pa, pg, po, pc, rfl, hL, hP, hn63⟩ := h
  obtain ⟨n, hn⟩ : ∃ n, D.past.length = n := ⟨_, rfl⟩
  have HN := Lib.hid hn
  rw [hn] at hn63 ⊢
  have X := BoxN.start w #[.slice ua D.now.m.n l.cap, .slice na D.now.k nc, .slice pa n pc] 29
  have b0 := X.below
  have hBw := hL.hB
  have HL := Lib.hid (hL.step b0)
  have HP := Lib.hid (hP.step b0 hBw)
  have q0 := X.cell 0 rfl
  have q1 := X.cell 1 rfl
  have q2 := X.cell 2 rfl
  have hXW := X.size
  clear hL hP hn
  go_enter Try.func8, Try.ntmps8
  go_wp2_with fail
  generalize w.alloc (.cells #[.slice ua D.now.m.n l.cap, .slice na D.now.k nc, .slice pa n pc] 29) = W at X b0 HL HP q0 q1 q2 hXW ⊢
  go_at_call 25
  refine (LogicOk_any HL.out).mono ?_
  rintro e w2 ⟨rfl, b2⟩
  have X2 := X.step b2
  have B2 := b0.trans (b2.mono b0.size)
  have HP2 := Lib.hid (HP.out.step b2 (by omega))
  have hz2 := b2.size
  clear q0 q1 q2
  have q2 := X2.cell 2 rfl
  cases hok : logicB D.now.m D.now.k D.now.z with
  | false =>
    have HF : Hid (false = D.okB) := (Dk.okB_now hok).symm
    clear hok
    go_wp2_with fail
    go_ret
    exact ⟨ret_bool HF.out, B2⟩
  | true =>
    have HK := Lib.hid hok
    clear hok
    by_cases h8 : n ≤ 8
    · have h8' : (n : Int) ≤ 8 := by omega
      go_wp2_with fail
      go_at_call 26
      refine (ContainsFunc_none HP2.out (by omega) HN.out hn63).mono ?_
      rintro e w3 ⟨rfl, b3⟩
      have B3 := B2.trans (b3.mono B2.size)
      cases hp : D.past.all Lc.ok with
      | false =>
        have HF : Hid (false = D.okB) := by
          show _ = _
          unfold Dk.okB
          rw [hp]; rfl
        clear hp
        go_wp2_with fail
        go_ret
        exact ⟨ret_bool HF.out, B3⟩
      | true =>
        have HF : Hid (true = D.okB) := by
          show _ = _
          unfold Dk.okB Lc.ok
          unfold Lc.ok at hp
          rw [hp, HK.out, HN.out, decide_eq_true h8]; rfl
        clear hp
        go_wp2_with fail
        go_ret
        exact ⟨ret_bool HF.out, B3⟩
    · have h8' : ¬ (n : Int) ≤ 8 := by omega
      have HF : Hid (false = D.okB) := (Dk.okB_long (by rw [HN.out]; exact h8)).symm
      go_wp2_with fail
      go_ret
      exact ⟨ret_bool HF.out, B2⟩
end Go.Proofs.Ytojcgmgponnlpaa
