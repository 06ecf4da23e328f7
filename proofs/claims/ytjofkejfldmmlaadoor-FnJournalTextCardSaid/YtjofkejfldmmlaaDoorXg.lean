/- The reference's digits, words between spaces, and reader of deeds. -/
import Derived.Test.YtjofkejfldmmlaaDoorXf
namespace Go.Proofs.YtjofkejfldmmlaaDoor
open Go.RowKit Go.Deep

theorem digI_len {l : List UInt8} (h : ¬ (l.length = 1 ∨ l.length = 2)) : digI l = -1 := by
  unfold digI
  match l, h with
  | [], _ => rfl
  | [_], h => exact absurd (.inl rfl) h
  | [_, _], h => exact absurd (.inr rfl) h
  | _ :: _ :: _ :: _, _ => rfl
theorem digI_one (c : UInt8) : digI [c] = if isDig c = true then ((c.toNat - 48 : Nat) : Int) else -1 := rfl
theorem digI_two (c d : UInt8) : digI [c, d] = if isDig c = true ∧ isDig d = true ∧ c ≠ 48 then ((10 * (c.toNat - 48) + (d.toNat - 48) : Nat) : Int) else -1 := rfl
theorem isDig_iff (c : UInt8) : isDig c = true ↔ 48 ≤ c.toNat ∧ c.toNat ≤ 57 := by
  unfold isDig
  rw [Bool.and_eq_true, decide_eq_true_iff, decide_eq_true_iff]
set_option maxRecDepth 100000 in
set_option maxHeartbeats 2000000 in
theorem digits_len (s : ByteArray) (hs : s.size ≤ 9223372036854775807) (h : ¬ (s.data.toList.length = 1 ∨ s.data.toList.length = 2)) (w : World) : Calls Tryd.prog 42 #[.string s] w fun e w' => e = .returned (.int .i64 (digI s.data.toList)) ∧ w' = w := by
  have hd := Lib.hid (digI_len h)
  have hz : ¬ (s.size = 1 ∨ s.size = 2) := h
  have d1 : (decide ((1 : Int) ≤ (s.size : Int)) && decide ((s.size : Int) ≤ 2)) = false := by
    by_cases h0 : s.size = 0
    · rw [h0]; rfl
    · rw [decide_eq_false (show ¬ ((s.size : Int) ≤ 2) by omega), Bool.and_false]
  clear h
  go_enter Tryd.func42, Tryd.ntmps42
  go_wp2_with fail
  go_at_call 35
  refine (l1In_any _ _ _ _).mono ?_
  rintro e w1 ⟨rfl, rfl⟩
  rw [d1]
  go_wp2_with fail
  go_ret
  exact ⟨by rw [hd.out]; rfl, rfl⟩
theorem digI_bad {l : List UInt8} {c : UInt8} (hc : c ∈ l) (h : ¬ isDig c = true) : digI l = -1 := by
  match l, hc with
  | [x], hc =>
    rw [List.mem_singleton] at hc
    subst hc
    rw [digI_one, if_neg h]
  | [x, y], hc =>
    rw [digI_two, if_neg]
    rintro ⟨h1, h2, _⟩
    rcases List.mem_cons.1 hc with rfl | hc
    · exact h h1
    · rw [List.mem_singleton] at hc
      subst hc
      exact h h2
  | _ :: _ :: _ :: _, _ => rfl
theorem digI_zero {l : List UInt8} (hl : l.length = 2) (h : l.head? = some 48) : digI l = -1 := by
  match l, hl with
  | [x, y], _ =>
    obtain rfl : x = 48 := Option.some.inj h
    rw [digI_two, if_neg (fun e => e.2.2 rfl)]
theorem digI_good {l : List UInt8} (hl : l.length = 1 ∨ l.length = 2) (hd : ∀ c ∈ l, isDig c = true) (hz : l.length = 2 → l.head? ≠ some 48) : digI l = (valL l : Int) := by
  match l, hl with
  | [x], _ =>
    rw [digI_one, if_pos (hd x List.mem_cons_self)]
    show _ = ((10 * 0 + (x.toNat - 48) : Nat) : Int)
    omega
  | [x, y], _ =>
    rw [digI_two, if_pos ⟨hd x List.mem_cons_self, hd y (List.mem_cons_of_mem _ List.mem_cons_self), fun e => hz rfl (by rw [e]; rfl)⟩]
    show _ = ((10 * (10 * 0 + (x.toNat - 48)) + (y.toNat - 48) : Nat) : Int)
    omega
  | [], h => exact absurd h (by simp)
  | _ :: _ :: _ :: _, h => exact absurd h (by simp)
theorem valL_nine {l : List UInt8} (hl : l.length ≤ 1) (hd : ∀ c ∈ l, isDig c = true) : valL l ≤ 9 := by
  match l, hl with
  | [], _ => exact Nat.zero_le _
  | [x], _ =>
    have := (isDig_iff x).1 (hd x List.mem_cons_self)
    show 10 * 0 + (x.toNat - 48) ≤ 9
    omega
theorem take_step {s : ByteArray} {k : Nat} (h : k < s.size) : s.data.toList.take (k + 1) = s.data.toList.take k ++ [s[k]] := by
  rw [List.take_add_one, at_data h]; rfl
set_option maxRecDepth 100000 in
set_option maxHeartbeats 4000000 in
theorem digits_one (s : ByteArray) (hl : s.data.toList.length = 1) (w : World) : Calls Tryd.prog 42 #[.string s] w fun e w' => e = .returned (.int .i64 (digI s.data.toList)) ∧ w' = w := by
  have hz : s.size = 1 := hl
  have HL := Lib.hid hl
  have d1 : (decide ((1 : Int) ≤ ((1 : Nat) : Int)) && decide (((1 : Nat) : Int) ≤ 2)) = true := by decide
  have d1' : (decide ((1 : Int) ≤ (1 : Int)) && decide ((1 : Int) ≤ 2)) = true := by decide
  have h63 : (s.size : Int) ≤ 9223372036854775807 := by omega
  clear hl
  go_enter Tryd.func42, Tryd.ntmps42
  go_wp2_with fail
  go_at_call 35
  refine (l1In_any _ _ _ _).mono ?_
  rintro e w1 ⟨rfl, rfl⟩
  first | rw [d1] | rw [d1'] | (rw [hz, d1])
  go_wp2_with fail
  go_loopw [3, 4] (fun nv kv wr => ∃ k n : Nat, k ≤ s.size ∧ nv = .int .i64 (n : Int) ∧ kv = .int .i64 (k : Int) ∧ wr = w ∧ Hid (n = valL (s.data.toList.take k) ∧ ∀ c ∈ s.data.toList.take k, isDig c = true)) (fun _ kv _ => 2 - (intOf kv).toNat)
  case atStart => exact ⟨0, 0, Nat.zero_le _, rfl, rfl, by first | rfl | trivial, rfl, fun c hc => absurd hc (by simp)⟩
  case round =>
    obtain ⟨k, n, hk, rfl, rfl, hwr, hR⟩ := hrel
    rw [hwr]
    by_cases hlt : k < s.size
    · have hlt' : (k : Int) < s.size := by omega
      have hlt2 : (k : Int) < 1 := by omega
      have hk0 : (0 : Int) ≤ k := by omega
      have hn9 : n ≤ 9 := by
        rw [hR.out.1]
        exact valL_nine (by rw [List.length_take]; omega) hR.out.2
      have HT := Lib.hid (take_step hlt)
      have HM : Hid (s[k] ∈ s.data.toList) := List.mem_of_getElem? (at_data hlt)
      obtain ⟨c, hc⟩ : ∃ c, s[k] = c := ⟨_, rfl⟩
      rw [hc] at HT HM
      obtain ⟨x, hx⟩ : ∃ x, c.toNat = x := ⟨_, rfl⟩
      have hiff := isDig_iff c
      rw [hx] at hiff
      have hx9 : x < 256 := by rw [← hx]; exact c.toNat_lt
      by_cases h1 : x < 48
      · have h1' : (x : Int) < 48 := by omega
        have HB := Lib.hid (digI_bad HM.out (fun e => by have := hiff.1 e; omega))
        clear hiff
        go_wp2_with fail
        go_ret
        exact ⟨by rw [HB.out]; rfl, rfl⟩
      by_cases h2 : 57 < x
      · have h1' : ¬ (x : Int) < 48 := by omega
        have h2' : (57 : Int) < (x : Int) := by omega
        have HB := Lib.hid (digI_bad HM.out (fun e => by have := hiff.1 e; omega))
        clear hiff
        go_wp2_with fail
        go_ret
        exact ⟨by rw [HB.out]; rfl, rfl⟩
      have h1' : ¬ (x : Int) < 48 := by omega
      have h2' : ¬ (57 : Int) < (x : Int) := by omega
      have HG := Lib.hid (hiff.2 ⟨by omega, by omega⟩)
      have u1 : IntKind.u8.wrap ((x : Int) - 48) = (x : Int) - 48 := by rw [IntKind.wrap_u8]; omega
      have u2 : IntKind.i64.wrap ((x : Int) - 48) = (x : Int) - 48 := by rw [IntKind.wrap_i64]; omega
      have u3 : IntKind.i64.wrap (10 * (n : Int)) = 10 * (n : Int) := by rw [IntKind.wrap_i64]; omega
      have u4 : IntKind.i64.wrap (10 * (n : Int) + ((x : Int) - 48)) = 10 * (n : Int) + ((x : Int) - 48) := by rw [IntKind.wrap_i64]; omega
      have hx' : 48 ≤ x := by omega
      have HX := Lib.hid hx
      clear hiff
      go_wp2_with fail
      exact ⟨⟨k + 1, 10 * n + (x - 48), by omega, by go_num, by go_num, by first | rfl | trivial, by
        show _ ∧ _
        rw [HT.out, valL_snoc, HX.out, ← hR.out.1]
        refine ⟨rfl, fun d hd => ?_⟩
        rcases List.mem_append.1 hd with hd | hd
        · exact hR.out.2 d hd
        · rw [List.mem_singleton] at hd
          rw [hd]; exact HG.out⟩, by simp [intOf]; omega⟩
    · have hlt' : ¬ (k : Int) < s.size := by omega
      have hks : k = s.size := by omega
      have hlt2 : ¬ (k : Int) < 1 := by omega
      have HE : Hid (digI s.data.toList = (n : Int)) := by
        show _ = _
        have e : s.data.toList.take k = s.data.toList := by rw [hks]; exact List.take_of_length_le (Nat.le_refl _)
        have h3 := hR.out
        rw [e] at h3
        rw [h3.1]
        exact digI_good (by have := HL.out; omega) h3.2 (fun e => by have := HL.out; omega)
      clear hks
      go_wp2_with fail
      go_ret
      exact ⟨by rw [HE.out]; rfl, rfl⟩

set_option maxRecDepth 100000 in
set_option maxHeartbeats 4000000 in
theorem digits_two (s : ByteArray) (hl : s.data.toList.length = 2) (hh : ¬ s.data.toList.head? = some 48) (w : World) : Calls Tryd.prog 42 #[.string s] w fun e w' => e = .returned (.int .i64 (digI s.data.toList)) ∧ w' = w := by
  have hz : s.size = 2 := hl
  have HL := Lib.hid hl
  have hlt0 : 0 < s.size := by omega
  have hc0 : s.data.toList.head? = some s[0] := by rw [List.head?_eq_getElem?]; exact at_data hlt0
  have HZ := Lib.hid hh
  obtain ⟨c0, e0⟩ : ∃ c, s[0] = c := ⟨_, rfl⟩
  rw [e0] at hc0
  obtain ⟨x0, ex0⟩ : ∃ x, c0.toNat = x := ⟨_, rfl⟩
  have hx0 : ((x0 : Int) == 48) = false := beq_eq_false_iff_ne.2 fun e => hh (by rw [hc0]; exact congrArg some (UInt8.toNat_inj.1 (by rw [ex0]; show x0 = 48; omega)))
  clear hc0 hh
  have d1 : (decide ((1 : Int) ≤ ((2 : Nat) : Int)) && decide (((2 : Nat) : Int) ≤ 2)) = true := by decide
  have d1' : (decide ((1 : Int) ≤ (2 : Int)) && decide ((2 : Int) ≤ 2)) = true := by decide
  have h63 : (s.size : Int) ≤ 9223372036854775807 := by omega
  clear hl
  go_enter Tryd.func42, Tryd.ntmps42
  go_wp2_with fail
  go_at_call 35
  refine (l1In_any _ _ _ _).mono ?_
  rintro e w1 ⟨rfl, rfl⟩
  first | rw [d1] | rw [d1'] | (rw [hz, d1])
  go_wp2_with fail
  go_loopw [3, 4] (fun nv kv wr => ∃ k n : Nat, k ≤ s.size ∧ nv = .int .i64 (n : Int) ∧ kv = .int .i64 (k : Int) ∧ wr = w ∧ Hid (n = valL (s.data.toList.take k) ∧ ∀ c ∈ s.data.toList.take k, isDig c = true)) (fun _ kv _ => 2 - (intOf kv).toNat)
  case atStart => exact ⟨0, 0, Nat.zero_le _, rfl, rfl, by first | rfl | trivial, rfl, fun c hc => absurd hc (by simp)⟩
  case round =>
    obtain ⟨k, n, hk, rfl, rfl, hwr, hR⟩ := hrel
    rw [hwr]
    by_cases hlt : k < s.size
    · have hlt' : (k : Int) < s.size := by omega
      have hlt2 : (k : Int) < 2 := by omega
      have hk0 : (0 : Int) ≤ k := by omega
      have hn9 : n ≤ 9 := by
        rw [hR.out.1]
        exact valL_nine (by rw [List.length_take]; omega) hR.out.2
      have HT := Lib.hid (take_step hlt)
      have HM : Hid (s[k] ∈ s.data.toList) := List.mem_of_getElem? (at_data hlt)
      obtain ⟨c, hc⟩ : ∃ c, s[k] = c := ⟨_, rfl⟩
      rw [hc] at HT HM
      obtain ⟨x, hx⟩ : ∃ x, c.toNat = x := ⟨_, rfl⟩
      have hiff := isDig_iff c
      rw [hx] at hiff
      have hx9 : x < 256 := by rw [← hx]; exact c.toNat_lt
      by_cases h1 : x < 48
      · have h1' : (x : Int) < 48 := by omega
        have HB := Lib.hid (digI_bad HM.out (fun e => by have := hiff.1 e; omega))
        clear hiff
        go_wp2_with fail
        go_ret
        exact ⟨by rw [HB.out]; rfl, rfl⟩
      by_cases h2 : 57 < x
      · have h1' : ¬ (x : Int) < 48 := by omega
        have h2' : (57 : Int) < (x : Int) := by omega
        have HB := Lib.hid (digI_bad HM.out (fun e => by have := hiff.1 e; omega))
        clear hiff
        go_wp2_with fail
        go_ret
        exact ⟨by rw [HB.out]; rfl, rfl⟩
      have h1' : ¬ (x : Int) < 48 := by omega
      have h2' : ¬ (57 : Int) < (x : Int) := by omega
      have HG := Lib.hid (hiff.2 ⟨by omega, by omega⟩)
      have u1 : IntKind.u8.wrap ((x : Int) - 48) = (x : Int) - 48 := by rw [IntKind.wrap_u8]; omega
      have u2 : IntKind.i64.wrap ((x : Int) - 48) = (x : Int) - 48 := by rw [IntKind.wrap_i64]; omega
      have u3 : IntKind.i64.wrap (10 * (n : Int)) = 10 * (n : Int) := by rw [IntKind.wrap_i64]; omega
      have u4 : IntKind.i64.wrap (10 * (n : Int) + ((x : Int) - 48)) = 10 * (n : Int) + ((x : Int) - 48) := by rw [IntKind.wrap_i64]; omega
      have hx' : 48 ≤ x := by omega
      have HX := Lib.hid hx
      clear hiff
      go_wp2_with fail
      exact ⟨⟨k + 1, 10 * n + (x - 48), by omega, by go_num, by go_num, by first | rfl | trivial, by
        show _ ∧ _
        rw [HT.out, valL_snoc, HX.out, ← hR.out.1]
        refine ⟨rfl, fun d hd => ?_⟩
        rcases List.mem_append.1 hd with hd | hd
        · exact hR.out.2 d hd
        · rw [List.mem_singleton] at hd
          rw [hd]; exact HG.out⟩, by simp [intOf]; omega⟩
    · have hlt' : ¬ (k : Int) < s.size := by omega
      have hks : k = s.size := by omega
      have hlt2 : ¬ (k : Int) < 2 := by omega
      have HE : Hid (digI s.data.toList = (n : Int)) := by
        show _ = _
        have e : s.data.toList.take k = s.data.toList := by rw [hks]; exact List.take_of_length_le (Nat.le_refl _)
        have h3 := hR.out
        rw [e] at h3
        rw [h3.1]
        exact digI_good (by have := HL.out; omega) h3.2 (fun _ => HZ.out)
      clear hks
      go_wp2_with fail
      go_ret
      exact ⟨by rw [HE.out]; rfl, rfl⟩

set_option maxRecDepth 100000 in
set_option maxHeartbeats 4000000 in
theorem digits_zero (s : ByteArray) (hl : s.data.toList.length = 2) (hh : s.data.toList.head? = some 48) (w : World) : Calls Tryd.prog 42 #[.string s] w fun e w' => e = .returned (.int .i64 (digI s.data.toList)) ∧ w' = w := by
  have hz : s.size = 2 := hl
  have HL := Lib.hid hl
  have hlt0 : 0 < s.size := by omega
  have hc0 : s.data.toList.head? = some s[0] := by rw [List.head?_eq_getElem?]; exact at_data hlt0
  have HZ := Lib.hid hh
  obtain ⟨c0, e0⟩ : ∃ c, s[0] = c := ⟨_, rfl⟩
  rw [e0] at hc0
  obtain ⟨x0, ex0⟩ : ∃ x, c0.toNat = x := ⟨_, rfl⟩
  have hx0 : x0 = 48 := by
    rw [hc0] at hh
    rw [← ex0, Option.some.inj hh]; rfl
  subst hx0
  clear hc0 hh
  have d1 : (decide ((1 : Int) ≤ ((2 : Nat) : Int)) && decide (((2 : Nat) : Int) ≤ 2)) = true := by decide
  have d1' : (decide ((1 : Int) ≤ (2 : Int)) && decide ((2 : Int) ≤ 2)) = true := by decide
  have h63 : (s.size : Int) ≤ 9223372036854775807 := by omega
  clear hl
  go_enter Tryd.func42, Tryd.ntmps42
  go_wp2_with fail
  go_at_call 35
  refine (l1In_any _ _ _ _).mono ?_
  rintro e w1 ⟨rfl, rfl⟩
  first | rw [d1] | rw [d1'] | (rw [hz, d1])
  go_wp2_with fail
  go_ret
  exact ⟨by rw [digI_zero HL.out HZ.out]; rfl, rfl⟩

/-- The reference's digits. -/
theorem digits_any (s : ByteArray) (hs : s.size ≤ 9223372036854775807) (w : World) : Calls Tryd.prog 42 #[.string s] w fun e w' => e = .returned (.int .i64 (digI s.data.toList)) ∧ w' = w := by
  by_cases h : s.data.toList.length = 1 ∨ s.data.toList.length = 2
  · rcases h with h | h
    · exact digits_one s h w
    · by_cases hz : s.data.toList.head? = some 48
      · exact digits_zero s h hz w
      · exact digits_two s h hz w
  · exact digits_len s hs h w
theorem drop_split {l : List UInt8} {c : UInt8} {f k : Nat} (hf : f ≤ k) (hk : l[k]? = some c) : l.drop f = (l.drop f).take (k - f) ++ c :: l.drop (k + 1) := by
  have h1 : k < l.length := (List.getElem?_eq_some_iff.1 hk).1
  have h2 : (l.drop f).drop (k - f) = l.drop k := by rw [List.drop_drop]; congr 1; omega
  have h3 : l.drop k = c :: l.drop (k + 1) := by
    rw [List.drop_eq_getElem_cons h1]
    congr 1
    exact Option.some.inj ((List.getElem?_eq_getElem h1).symm.trans hk)
  rw [← h3, ← h2, List.take_append_drop]
theorem infoString : (Tryd.prog.info? 9).map (fun i => (i.zero, i.size, i.bytes)) = some (some (.string ⟨#[]⟩), 1, 16) := by kernel_rfl
/-- What l1Cut answers: the words between spaces, a list of its own. -/
def WordsOf (s : ByteArray) (w : World) (e : Ending) (w' : World) : Prop :=
  Below w.heap.size w w' ∧ ∃ v, e = .returned v ∧ w'.ownsRow w.heap.size 9 1 v (cutL 32 s.data.toList).length ((cutL 32 s.data.toList).map strV)
set_option maxRecDepth 100000 in
set_option maxHeartbeats 4000000 in
theorem l1Cut_any (s : ByteArray) (hs : s.size ≤ 1099511627776) (w : World) : Calls Tryd.prog 41 #[.string s, .int .u8 32] w (WordsOf s w) := by
  obtain ⟨i0, hi, hz0, hz1, hz2⟩ := info_parts infoString
  have HI := Lib.hid hi
  have HZ0 := Lib.hid hz0
  have HZ1 := Lib.hid hz1
  have HZ2 := Lib.hid hz2
  clear hi hz0 hz1 hz2
  have own0 := World.ownsRow_made (base := w.heap.size) (e := 9) (size := 1) w #[] 0 (Nat.le_refl _) (Nat.zero_le _) rfl
  have b0 := (Below.refl w.heap.size w).alloc (Nat.le_refl _) (.cells #[] 9)
  have h63 : (s.size : Int) ≤ 9223372036854775807 := by omega
  go_enter Tryd.func41, Tryd.ntmps41
  go_wp2_with fail
  generalize w.alloc (.cells #[] 9) = W0 at own0 b0 ⊢
  go_loopw [5, 6, 7] (fun v fv kv wr => ∃ (D : List (List UInt8)) (f k : Nat), fv = .int .i64 (f : Int) ∧ kv = .int .i64 (k : Int) ∧ f ≤ k ∧ k ≤ s.size ∧ D.length ≤ k ∧ wr.ownsRow w.heap.size 9 1 v D.length (D.map strV) ∧ Below w.heap.size w wr ∧ Hid (cutL 32 s.data.toList = D ++ cutL 32 (s.data.toList.drop f) ∧ (32 : UInt8) ∉ (s.data.toList.drop f).take (k - f))) (fun _ _ kv _ => s.size - (intOf kv).toNat)
  case atStart => exact ⟨[], 0, 0, rfl, rfl, Nat.le_refl _, Nat.zero_le _, Nat.zero_le _, own0, b0, rfl, by simp⟩
  case round =>
    obtain ⟨D, f, k, rfl, rfl, hfk, hks, hDk, hown, hB, hM⟩ := hrel
    have c1 : (0 : Int) ≤ (f : Int) := by omega
    have c2 : (f : Int) ≤ (k : Int) := by omega
    have c3 : (k : Int) ≤ (s.size : Int) := by omega
    have c4 : (f : Int) ≤ (s.size : Int) := by omega
    by_cases hlt : k < s.size
    · have hlt' : (k : Int) < s.size := by omega
      have hk0 : (0 : Int) ≤ k := by omega
      have hat := at_data hlt
      obtain ⟨c, hc⟩ : ∃ c, s[k] = c := ⟨_, rfl⟩
      rw [hc] at hat
      obtain ⟨x, hx⟩ : ∃ x, c.toNat = x := ⟨_, rfl⟩
      have HX := Lib.hid hx
      by_cases h32 : x = 32
      · subst h32
        have hc32 : c = 32 := UInt8.toNat_inj.1 (by rw [hx]; rfl)
        have HS : Hid (cutL 32 s.data.toList = (D ++ [(s.extract f k).data.toList]) ++ cutL 32 (s.data.toList.drop (k + 1)) ∧ (32 : UInt8) ∉ (s.data.toList.drop (k + 1)).take (k + 1 - (k + 1))) := by
          show _ ∧ _
          rw [hc32] at hat
          refine ⟨?_, by rw [Nat.sub_self]; simp⟩
          rw [hM.out.1, drop_split hfk hat, cutL_app hM.out.2, ext_data]
          simp
        clear hat hc32 HX
        go_wp2_with (at_builtin; refine wpList_append_own _ rfl _ _ 67 rfl w.heap.size 9 i0 (.string ⟨#[]⟩) 1 16 Tryd.underlying67 HI.out HZ0.out HZ1.out HZ2.out rfl (by decide) _ _ _ rfl ((Chg.alloc (fun _ => False) _ _).own hown (fun _ _ h => h)) ⟨wr.heap.size, 0, none⟩ 1 1 [.string (s.extract f k)] rfl rfl (cell_one_new _ _ _) ?c2 ?c3 ?c4 ?c5 ?_)
        case c2 => simp [Value.oneCell']
        case c3 => unfold maxLen; omega
        case c4 => omega
        case c5 => have := hB.size; simp; omega
        intro v' w4 hown4 hgrow _
        have hW4 : Below w.heap.size w w4 := (hB.alloc (by have := hB.size; omega) _).grown hgrow (by have := hB.size; simp; omega) (ownsRow_block hown)
        have HO : Hid (w4.ownsRow w.heap.size 9 1 v' (D ++ [(s.extract f k).data.toList]).length ((D ++ [(s.extract f k).data.toList]).map strV)) := by
          show World.ownsRow _ _ _ _ _ _ _
          rw [List.length_append, List.map_append]; exact hown4
        clear hown4 hgrow hown
        go_wp2_with fail
        go_roundw
        case rel => exact ⟨D ++ [(s.extract f k).data.toList], k + 1, k + 1, by go_num, by go_num, Nat.le_refl _, by omega, by rw [List.length_append, List.length_singleton]; omega, HO.out, hW4, HS⟩
        case measure => simp [intOf]; omega
      · have h32' : ((x : Int) == 32) = false := beq_eq_false_iff_ne.2 (by omega)
        have HS : Hid (cutL 32 s.data.toList = D ++ cutL 32 (s.data.toList.drop f) ∧ (32 : UInt8) ∉ (s.data.toList.drop f).take (k + 1 - f)) := by
          show _ ∧ _
          refine ⟨hM.out.1, fun hm => ?_⟩
          have e : k + 1 - f = (k - f) + 1 := by omega
          rw [e, List.take_add_one, List.getElem?_drop, show f + (k - f) = k by omega, hat] at hm
          rcases List.mem_append.1 hm with hm | hm
          · exact hM.out.2 hm
          · have : (32 : UInt8) = c := by simpa using hm
            rw [← this] at hx
            exact h32 hx.symm
        clear hat HX
        go_wp2_with fail
        exact ⟨⟨D, f, k + 1, rfl, by go_num, by omega, by omega, by omega, hown, hB, HS⟩, by simp [intOf]; omega⟩
    · have hlt' : ¬ (k : Int) < s.size := by omega
      have HS : Hid (cutL 32 s.data.toList = D ++ [(s.extract f s.size).data.toList]) := by
        show _ = _
        have h2 := hM.out.2
        have hks2 : k = s.size := by omega
        rw [hM.out.1, ext_end, cutL_none]
        intro hm
        apply h2
        rw [List.take_of_length_le (by rw [List.length_drop, hks2]; exact Nat.le_refl _)]
        exact hm
      go_wp2_with (at_builtin; refine wpList_append_own _ rfl _ _ 67 rfl w.heap.size 9 i0 (.string ⟨#[]⟩) 1 16 Tryd.underlying67 HI.out HZ0.out HZ1.out HZ2.out rfl (by decide) _ _ _ rfl ((Chg.alloc (fun _ => False) _ _).own hown (fun _ _ h => h)) ⟨wr.heap.size, 0, none⟩ 1 1 [.string (s.extract f s.size)] rfl rfl (cell_one_new _ _ _) ?d2 ?d3 ?d4 ?d5 ?_)
      case d2 => simp [Value.oneCell']
      case d3 => unfold maxLen; omega
      case d4 => omega
      case d5 => have := hB.size; simp; omega
      intro v' w4 hown4 hgrow _
      have hW4 : Below w.heap.size w w4 := (hB.alloc (by have := hB.size; omega) _).grown hgrow (by have := hB.size; simp; omega) (ownsRow_block hown)
      have HO : Hid (w4.ownsRow w.heap.size 9 1 v' (D ++ [(s.extract f s.size).data.toList]).length ((D ++ [(s.extract f s.size).data.toList]).map strV)) := by
        show World.ownsRow _ _ _ _ _ _ _
        rw [List.length_append, List.map_append]; exact hown4
      clear hown4 hgrow hown
      go_wp2_with fail
      go_ret
      exact ⟨hW4, _, rfl, by rw [HS.out]; exact HO.out⟩
end Go.Proofs.YtjofkejfldmmlaaDoor
