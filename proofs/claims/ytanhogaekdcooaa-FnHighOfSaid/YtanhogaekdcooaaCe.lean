/- The walks of the reference's tests of modular logics: ModularOk, PentagonOf, HighOf, AddsUpOk; what they answer. -/
import Derived.Test.YtanhogaekdcooaaSl
import Derived.Test.YtanhogaekdcooaaMathP
import Derived.Test.YtanhogaekdcooaaMathS
namespace Go.Proofs.Ytanhogaekdcooaa
open Go.RowKit Go.Deep

/-- Something holds of each three answers. -/
def all3B (n : Nat) (p : Nat → Nat → Nat → Bool) : Bool := allB n fun a => allB n fun b => allB n fun d => p a b d
theorem all3_iff {n : Nat} {p : Nat → Nat → Nat → Bool} : all3B n p = true ↔ ∀ a b d, a < n → b < n → d < n → p a b d = true :=
  ⟨fun h a b d ha hb hd => allB_is (allB_is (allB_is h a ha) b hb) d hd, fun h => allB_true fun a ha => allB_true fun b hb => allB_true fun d hd => h a b d ha hb hd⟩
theorem all3_fails {n : Nat} {p : Nat → Nat → Nat → Bool} {a b d : Nat} (ha : a < n) (hb : b < n) (hd : d < n) (h : p a b d = false) : all3B n p = false := by
  cases e : all3B n p with
  | false => rfl
  | true => rw [all3_iff.1 e a b d ha hb hd] at h; cases h
theorem all3_mod (m : Mx) : all3B m.n (modP m) = modB m := rfl
theorem all3_bool (m : Mx) : all3B m.n (splitB m) = boolB m := by
  rw [Bool.eq_iff_iff, all3_iff, bool_iff]
/-- The number that three numbers are. -/
theorem num_lt {n a b d : Nat} (ha : a < n) (hb : b < n) (hd : d < n) : (a * n + b) * n + d < n * n * n := by
  have h2 : a * n + b < n * n := by
    have : (a + 1) * n ≤ n * n := Nat.mul_le_mul_right _ ha
    rw [Nat.add_mul, Nat.one_mul] at this
    omega
  have : (a * n + b + 1) * n ≤ n * n * n := Nat.mul_le_mul_right _ h2
  rw [Nat.add_mul, Nat.one_mul] at this
  omega
theorem num_parts {n a b d : Nat} (hb : b < n) (hd : d < n) : ((a * n + b) * n + d) / n / n = a ∧ ((a * n + b) * n + d) / n % n = b ∧ ((a * n + b) * n + d) % n = d := by
  have hp : 0 < n := by omega
  have e1 : ((a * n + b) * n + d) / n = a * n + b := by
    rw [Nat.add_comm, Nat.add_mul_div_right _ _ hp, Nat.div_eq_of_lt hd, Nat.zero_add]
  rw [e1]
  refine ⟨?_, ?_, ?_⟩
  · rw [Nat.add_comm, Nat.add_mul_div_right _ _ hp, Nat.div_eq_of_lt hb, Nat.zero_add]
  · rw [Nat.add_comm, Nat.add_mul_mod_self_right, Nat.mod_eq_of_lt hb]
  · rw [Nat.add_comm, Nat.add_mul_mod_self_right, Nat.mod_eq_of_lt hd]
theorem num_of (k n : Nat) : k = (k / n / n * n + k / n % n) * n + k % n := by
  have e1 := Nat.div_add_mod k n
  have e2 := Nat.div_add_mod (k / n) n
  rw [Nat.mul_comm (k / n / n) n, e2, Nat.mul_comm (k / n) n]
  omega
theorem all3_trip {n : Nat} {p : Nat → Nat → Nat → Bool} (hp : 0 < n) : all3B n p = true ↔ ∀ k, k < n * n * n → p (k / n / n) (k / n % n) (k % n) = true := by
  rw [all3_iff]
  constructor
  · intro h k hk
    have h1 : k / n < n * n := (Nat.div_lt_iff_lt_mul hp).2 hk
    exact h _ _ _ ((Nat.div_lt_iff_lt_mul hp).2 h1) (Nat.mod_lt _ hp) (Nat.mod_lt _ hp)
  · intro h a b d ha hb hd
    have h3 := h _ (num_lt ha hb hd)
    obtain ⟨e1, e2, e3⟩ := num_parts (a := a) hb hd
    rw [e1, e2, e3] at h3
    exact h3
/-- Of two numbers of three digits the lower one has the lower digits. -/
theorem num_lex {n a b d i : Nat} (hb : b < n) (hd : d < n) (h : i < (a * n + b) * n + d) : i / n / n < a ∨ (i / n / n = a ∧ i / n % n < b) ∨ (i / n / n = a ∧ i / n % n = b ∧ i % n < d) := by
  have hp : 0 < n := by omega
  have e := num_of i n
  have hC := Nat.mod_lt (i / n) hp
  have hE := Nat.mod_lt i hp
  obtain ⟨A, hA⟩ : ∃ A, A = i / n / n := ⟨_, rfl⟩
  obtain ⟨C, hCe⟩ : ∃ C, C = i / n % n := ⟨_, rfl⟩
  obtain ⟨E, hEe⟩ : ∃ E, E = i % n := ⟨_, rfl⟩
  rw [← hA, ← hCe, ← hEe] at e
  rw [← hCe] at hC
  rw [← hEe] at hE
  rw [← hA, ← hCe, ← hEe]
  clear hA hCe hEe
  apply Classical.byContradiction
  intro hn
  by_cases h1 : A = a
  · subst h1
    by_cases h2 : C = b
    · subst h2; omega
    · have h3 : b + 1 ≤ C := by omega
      have h4 : (A * n + b + 1) * n ≤ (A * n + C) * n := Nat.mul_le_mul_right _ (by omega)
      rw [Nat.add_mul (A * n + b), Nat.one_mul] at h4
      omega
  · have h3 : a + 1 ≤ A := by omega
    have h4 : (a + 1) * n ≤ A * n := Nat.mul_le_mul_right _ h3
    rw [Nat.add_mul, Nat.one_mul] at h4
    have h5 : (a * n + b + 1) * n ≤ (A * n + C) * n := Nat.mul_le_mul_right _ (by omega)
    rw [Nat.add_mul (a * n + b), Nat.one_mul] at h5
    omega

noncomputable def modV (m : Mx) (k : Nat) (z : Nat → Int) : Bool := logicB m k z && modB m
/-- The first pentagon's number, -1 if there is none. -/
def pentI (m : Mx) : Int := firstI (m.n * m.n * m.n) fun k => pentP m (k / m.n / m.n) (k / m.n % m.n) (k % m.n)
noncomputable def pentOk (m : Mx) (k : Nat) (z : Nat → Int) : Bool := logicB m k z && decide (0 ≤ pentI m)
noncomputable def pentA (m : Mx) (k : Nat) (z : Nat → Int) : Int := if pentOk m k z = true then (((pentI m).toNat / m.n / m.n : Nat) : Int) else -1
noncomputable def pentC (m : Mx) (k : Nat) (z : Nat → Int) : Int := if pentOk m k z = true then (((pentI m).toNat / m.n % m.n : Nat) : Int) else -1
noncomputable def pentB (m : Mx) (k : Nat) (z : Nat → Int) : Int := if pentOk m k z = true then (((pentI m).toNat % m.n : Nat) : Int) else -1
noncomputable def pentV (m : Mx) (k : Nat) (z : Nat → Int) : Value := .tuple #[.int .i64 (pentA m k z), .int .i64 (pentC m k z), .int .i64 (pentB m k z), .bool (pentOk m k z)]
theorem pent_no_logic {m : Mx} {k : Nat} {z : Nat → Int} (h : logicB m k z = false) : pentV m k z = .tuple #[.int .i64 (-1), .int .i64 (-1), .int .i64 (-1), .bool false] := by
  have e : pentOk m k z = false := by unfold pentOk; rw [h]; rfl
  unfold pentV pentA pentC pentB
  rw [e]; rfl
theorem pent_none {m : Mx} {k : Nat} {z : Nat → Int} (h : ∀ i, i < m.n * m.n * m.n → pentP m (i / m.n / m.n) (i / m.n % m.n) (i % m.n) = false) : pentV m k z = .tuple #[.int .i64 (-1), .int .i64 (-1), .int .i64 (-1), .bool false] := by
  have e0 : pentI m = -1 := firstI_none h
  have e : pentOk m k z = false := by unfold pentOk; rw [e0]; simp
  unfold pentV pentA pentC pentB
  rw [e]; rfl
theorem pent_hit {m : Mx} {k : Nat} {z : Nat → Int} {i : Nat} (hl : logicB m k z = true) (hi : i < m.n * m.n * m.n) (h : ∀ j, j < i → pentP m (j / m.n / m.n) (j / m.n % m.n) (j % m.n) = false) (hp : pentP m (i / m.n / m.n) (i / m.n % m.n) (i % m.n) = true) :
    pentV m k z = .tuple #[.int .i64 ((i / m.n / m.n : Nat) : Int), .int .i64 ((i / m.n % m.n : Nat) : Int), .int .i64 ((i % m.n : Nat) : Int), .bool true] := by
  have e0 : pentI m = (i : Int) := firstI_hit hi h hp
  have e : pentOk m k z = true := by unfold pentOk; rw [hl, e0]; simp
  unfold pentV pentA pentC pentB
  rw [if_pos e, if_pos e, if_pos e, e, e0, Int.toNat_natCast]
noncomputable def highV (m : Mx) (k : Nat) (z : Nat → Int) (x : Int) : Int := if (logicB m k z && goodB m.n 1 (lone1 x)) = true then ((highN m x.toNat : Nat) : Int) else -1
noncomputable def addsV (m : Mx) (k : Nat) (z : Nat → Int) : Bool := logicB m k z && addsB m
theorem one_parts {m : Mx} {k : Nat} {z : Nat → Int} {x : Int} (h : (logicB m k z && goodB m.n 1 (lone1 x)) = true) : ∃ (a o : Nat), x = (a : Int) ∧ a < m.n ∧ k = m.n ∧ logicB m k z = true ∧ leastI m = (o : Int) ∧ Ortho m z (fun c => (z c).toNat) o := by
  rw [Bool.and_eq_true] at h
  obtain ⟨x0, x1⟩ := good_lone h.2
  obtain ⟨a, rfl⟩ := Int.eq_ofNat_of_zero_le x0
  obtain ⟨y, o, hO⟩ := (logicB_is h.1).ortho
  exact ⟨a, o, rfl, by omega, (logicB_is h.1).pair.len, h.1, hO.own.eq, hO.own⟩
theorem hN_le (m : Mx) : ∀ (s a : Nat), hN m s a ≤ s := by
  intro s
  induction s with
  | zero => intro a; exact Nat.le_refl _
  | succ s ih =>
    intro a
    have key : ∀ n, maxTo (fun k => if (k != a && leB m k a) = true then hN m s k + 1 else 0) n ≤ s + 1 := by
      intro n
      induction n with
      | zero => exact Nat.zero_le _
      | succ n in_ =>
        have e : maxTo (fun k => if (k != a && leB m k a) = true then hN m s k + 1 else 0) (n + 1) = max (maxTo (fun k => if (k != a && leB m k a) = true then hN m s k + 1 else 0) n) (if (n != a && leB m n a) = true then hN m s n + 1 else 0) := rfl
        rw [e]
        have := ih n
        split <;> omega
    exact key m.n
theorem high_le (m : Mx) (a : Nat) : highN m a ≤ m.n := hN_le m m.n a

set_option maxRecDepth 100000 in
set_option maxHeartbeats 4000000 in
theorem l8High_any {B : Nat} {sa : Option Addr} {l : Lay} {m : Mx} (ho : IsOrder m) : ∀ (s a : Nat) (w : World), MatAt w B sa l m → a < m.n → cntP m a ≤ s →
    Calls Try.prog 61 #[.slice sa m.n l.cap, .int .i64 a] w fun e w' => e = .returned (.int .i64 ((highN m a : Nat) : Int)) ∧ w = w' := by
  intro s
  induction s with
  | zero => intro a w _ ha hc; have := cnt_pos ho ha; omega
  | succ s ih =>
    intro a w hmat ha hc
    have hHi := Lib.hid (high_eq ho ha)
    have HS := Lib.hid ho.sq
    have HM := Lib.hid hmat
    have hn := ho.top
    obtain ⟨rfl, _, _⟩ := hmat.sq HS.out ha ha
    clear hmat
    go_enter Try.func61, Try.ntmps61
    go_wp2_with fail
    go_loopw [5, 6] (fun v i wr => ∃ j : Nat, j ≤ m.n ∧ i = .int .i64 j ∧ v = .int .i64 ((maxTo (fun k => if (k != a && leB m k a) = true then highN m k + 1 else 0) j : Nat) : Int) ∧ wr = w) (fun _ i _ => m.n - (intOf i).toNat)
    case atStart => exact ⟨0, Nat.zero_le _, rfl, rfl, rfl⟩
    case round =>
      obtain ⟨j, hj, rfl, rfl, rfl⟩ := hrel
      obtain ⟨M, hM⟩ : ∃ M, M = maxTo (fun k => if (k != a && leB m k a) = true then highN m k + 1 else 0) j := ⟨_, rfl⟩
      have HM1 : Hid (maxTo (fun k => if (k != a && leB m k a) = true then highN m k + 1 else 0) (j + 1) = max M (if (j != a && leB m j a) = true then highN m j + 1 else 0)) := by show max _ _ = _; rw [hM]
      rw [← hM]
      by_cases hlt : j < m.n
      · have hlt' : (j : Int) < m.n := by omega
        clear hM
        by_cases hja : j = a
        · subst hja
          have E : Hid (M = maxTo (fun k => if (k != j && leB m k j) = true then highN m k + 1 else 0) (j + 1)) := by show _ = _; rw [HM1.out]; simp
          have n1 : ((j : Int) != (j : Int)) = false := by simp
          go_wp2_with fail
          go_roundw
          case rel => exact ⟨j + 1, by omega, by go_num, by rw [← E.out], trivial⟩
          case measure => simp [intOf]; omega
        · have n1 : ((j : Int) != (a : Int)) = true := by rw [bne_iff_ne]; omega
          have ha' : (a : Int) < m.n := by omega
          obtain ⟨_, c1, c2⟩ := HM.out.sq HS.out hlt ha
          rcases leB_cases HS.out hlt ha with ⟨l1, z1⟩ | ⟨l1, z1⟩
          · have hcj := cnt_lt ho hlt ha z1 hja
            have E0 : (j != a && leB m j a) = true := by rw [l1]; simpa using hja
            have E := Lib.hid (HM1.out.trans (by rw [if_pos E0]))
            have hhj := Nat.le_trans (high_le m j) hn
            rw [z1] at c2
            clear E0 HM1 z1 l1
            go_wp2_with fail
            go_at_call 61
            refine (ih j _ HM.out hlt (by omega)).mono ?_
            rintro e w3 ⟨rfl, rfl⟩
            obtain ⟨H, hH⟩ : ∃ H, H = highN m j := ⟨_, rfl⟩
            rw [← hH] at hhj E ⊢
            clear hH
            by_cases hmx : M < H + 1
            · have hmx' : (M : Int) < (H : Int) + 1 := by omega
              go_wp2_with fail
              go_roundw
              case rel => exact ⟨j + 1, by omega, by go_num, by rw [E.out, Nat.max_eq_right (by omega)]; rfl, trivial⟩
              case measure => simp [intOf]; omega
            · have hmx' : ¬ (M : Int) < (H : Int) + 1 := by omega
              go_wp2_with fail
              go_roundw
              case rel => exact ⟨j + 1, by omega, by go_num, by rw [E.out, Nat.max_eq_left (by omega)], trivial⟩
              case measure => simp [intOf]; omega
          · have E : Hid (maxTo (fun k => if (k != a && leB m k a) = true then highN m k + 1 else 0) (j + 1) = M) := by show _ = _; rw [HM1.out, l1]; simp
            rw [z1] at c2
            clear HM1 z1 l1
            go_wp2_with fail
            go_roundw
            case rel => exact ⟨j + 1, by omega, by go_num, by rw [E.out], trivial⟩
            case measure => simp [intOf]; omega
      · have hlt' : ¬ (j : Int) < m.n := by omega
        have E : Hid (M = highN m a) := by show _ = _; rw [hHi.out, hM]; congr 1; omega
        clear hM
        go_wp2_with fail
        go_ret
        exact ⟨ret_int (by rw [E.out]), rfl⟩

set_option maxRecDepth 100000 in
set_option maxHeartbeats 4000000 in
theorem spec_ModularOk {w : World} {B : Nat} {ua : Option Addr} {l : Lay} {m : Mx} {na : Option Addr} {g o k nc : Nat} {z : Nat → Int} (h : LogAt w B ua l m na g o k z) :
    Calls Try.prog 14 #[.agg #[.slice ua m.n l.cap, .slice na k nc]] w fun e w' => e = .returned (.bool (modV m k z)) ∧ Below w.heap.size w w' := by
  have hX := BoxN.start w #[.slice ua m.n l.cap, .slice na k nc] 26
  have h1 := Lib.hid (h.alloc (.cells #[.slice ua m.n l.cap, .slice na k nc] 26))
  have q0 := hX.cell 0 rfl
  have q1 := hX.cell 1 rfl
  have hkk := h.hk
  clear h
  cases hl : logicB m k z with
  | false =>
    have HL := Lib.hid hl
    have HF : Hid (modV m k z = false) := by show _ = _; unfold modV; rw [hl]; rfl
    clear hl
    go_enter Try.func14, Try.ntmps14
    go_wp2_with fail
    generalize hW : w.alloc (.cells #[.slice ua m.n l.cap, .slice na k nc] 26) = W at h1 hX q0 q1 ⊢
    clear hW
    go_at_call 22
    refine (spec_LogicOk h1.out).mono ?_
    rintro e w3 ⟨rfl, b3⟩
    rw [HL.out]
    have hX3 := hX.step b3
    clear q0 q1
    go_wp2_with fail
    go_ret
    exact ⟨ret_bool HF.out.symm, hX3.below⟩
  | true =>
    have hlog := logicB_is hl
    obtain ⟨y0, o', hO0⟩ := hlog.ortho
    have hkn : k = m.n := hlog.pair.len
    subst hkn
    have hO := hO0.own
    have hn := hO.lat.order.top
    have hpos : 0 < m.n := hO.lat.order.pos
    have HO := Lib.hid hO
    have HL := Lib.hid hl
    have HS := Lib.hid hO.lat.order.sq
    obtain ⟨e0, _, _⟩ := h1.out.mat.sq HS.out hpos hpos
    obtain rfl := e0
    have hn3 : m.n * m.n * m.n ≤ 1728 := by
      have h9 : m.n * m.n ≤ 12 * 12 := Nat.mul_le_mul hn hn
      have h8 : m.n * m.n * m.n ≤ 144 * 12 := Nat.mul_le_mul h9 hn
      omega
    have hn2 : m.n * m.n ≤ 144 := Nat.mul_le_mul hn hn
    obtain ⟨N3, hN3⟩ : ∃ N3, N3 = m.n * m.n * m.n := ⟨_, rfl⟩
    rw [← hN3] at hn3
    have em2 : wrap64 ((m.n : Int) * (m.n : Int)) = (m.n : Int) * (m.n : Int) := by
      have e : (m.n : Int) * (m.n : Int) = ((m.n * m.n : Nat) : Int) := by simp
      rw [e]; exact IntWalk.wrap64_in _ (by omega)
    have em3 : wrap64 ((m.n : Int) * (m.n : Int) * (m.n : Int)) = (N3 : Int) := by
      have e : (m.n : Int) * (m.n : Int) * (m.n : Int) = (N3 : Int) := by rw [hN3]; simp
      rw [e]; exact IntWalk.wrap64_in _ (by omega)
    have HN3 := Lib.hid hN3
    clear hN3 hn2
    clear hl hO hlog hO0
    go_enter Try.func14, Try.ntmps14
    go_wp2_with fail
    generalize hW : w.alloc (.cells #[.slice (some ⟨l.b, l.o, none⟩) m.n l.cap, .slice na m.n nc] 26) = W at h1 hX q0 q1 ⊢
    clear hW
    go_at_call 22
    refine (spec_LogicOk h1.out).mono ?_
    rintro e w3 ⟨rfl, b3⟩
    rw [HL.out]
    have hX3 := hX.step b3
    have h3 := Lib.hid (h1.out.step b3)
    clear q0 q1 h1 hX
    go_wp2_with fail
    go_loopw [4] (fun i wr => ∃ j : Nat, j ≤ N3 ∧ i = .int .i64 j ∧ Below w3.heap.size w3 wr ∧ Hid (∀ c, c < j → modP m (c / m.n / m.n) (c / m.n % m.n) (c % m.n) = true)) (fun i _ => N3 - (intOf i).toNat)
    case atStart => exact ⟨0, Nat.zero_le _, rfl, Below.refl _ _, fun c hc => absurd hc (Nat.not_lt_zero _)⟩
    case round =>
      obtain ⟨j, hj, rfl, hD, hR⟩ := hrel
      by_cases hlt : j < N3
      · have hlt' : (j : Int) < (N3 : Int) := by omega
        have hXr := hX3.step hD
        have hLr := Lib.hid (h3.out.step hD)
        have q0 := hXr.cell 0 rfl
        have q1 := hXr.cell 1 rfl
        have hnz : ¬ m.n = 0 := by omega
        have hj3 : j < m.n * m.n * m.n := by have := HN3.out; omega
        have ha0 : j / m.n / m.n < m.n := (Nat.div_lt_iff_lt_mul hpos).2 ((Nat.div_lt_iff_lt_mul hpos).2 hj3)
        have hb0 : j / m.n % m.n < m.n := Nat.mod_lt _ hpos
        have hd0 : j % m.n < m.n := Nat.mod_lt _ hpos
        have HJ3 := Lib.hid hj3
        have hQ0 := Nat.div_le_self j m.n
        have D1 : IntKind.i64.wrap ((j : Int) / (m.n : Int)) = ((j / m.n : Nat) : Int) := by rw [div_wrap (show j ≤ 100000 by omega), Int.natCast_ediv]
        have D2 : IntKind.i64.wrap (((j / m.n : Nat) : Int) / (m.n : Int)) = ((j / m.n / m.n : Nat) : Int) := by rw [div_wrap (show j / m.n ≤ 100000 by omega), ← Int.natCast_ediv]
        have R1 : (((j / m.n : Nat) : Int)).tmod (m.n : Int) = ((j / m.n % m.n : Nat) : Int) := by rw [Int.tmod_eq_emod_of_nonneg (Int.natCast_nonneg _), Int.natCast_emod]
        have R2 : (j : Int).tmod (m.n : Int) = ((j % m.n : Nat) : Int) := by rw [Int.tmod_eq_emod_of_nonneg (by omega), Int.natCast_emod]
        clear hj3 hQ0
        have hall := hR.out
        obtain ⟨Q, hQ⟩ : ∃ Q : Nat, Q = j / m.n := ⟨_, rfl⟩
        rw [← hQ] at D1 D2 R1 ha0 hb0
        obtain ⟨a, hae⟩ : ∃ a : Nat, a = Q / m.n := ⟨_, rfl⟩
        obtain ⟨b, hbe⟩ : ∃ b : Nat, b = Q % m.n := ⟨_, rfl⟩
        obtain ⟨d, hde⟩ : ∃ d : Nat, d = j % m.n := ⟨_, rfl⟩
        rw [← hae] at D2 ha0
        rw [← hbe] at R1 hb0
        rw [← hde] at R2 hd0
        have HT : Hid (modP m (j / m.n / m.n) (j / m.n % m.n) (j % m.n) = modP m a b d) := by show _ = _; rw [hae, hbe, hde, hQ]
        have HA : Hid (a = j / m.n / m.n ∧ b = j / m.n % m.n ∧ d = j % m.n) := ⟨by rw [hae, hQ], by rw [hbe, hQ], hde⟩
        clear hae hbe hde hQ hall
        have ha' : (a : Int) < m.n := by omega
        have hb' : (b : Int) < m.n := by omega
        have hd' : (d : Int) < m.n := by omega
        have hmat := Lib.hid hLr.out.mat
        have m1 := (HO.out.mG hb0 hd0).lt
        have j1 := (HO.out.jG ha0 hb0).lt
        obtain ⟨_, c1, c2⟩ := hLr.out.mat.sq HS.out ha0 hd0
        rcases leB_cases HS.out ha0 hd0 with ⟨l1, z1⟩ | ⟨l1, z1⟩
        · by_cases heq : jN m a (mN m b d) = mN m (jN m a b) d
          · have n1 : (((jN m a (mN m b d) : Nat) : Int) != ((mN m (jN m a b) d : Nat) : Int)) = false := by rw [heq]; simp
            have HP : Hid (modP m a b d = true) := by show _ = _; unfold modP; rw [l1, decide_eq_true heq]; rfl
            rw [z1] at c2
            clear l1 z1 heq hLr
            go_wp2_with fail
            go_quiet (first | (go_at_call 46; exact meetQ hmat.out HO.out hb0 hd0) | (go_at_call 45; exact joinQ hmat.out HO.out ha0 m1) | (go_at_call 45; exact joinQ hmat.out HO.out ha0 hb0) | (go_at_call 46; exact meetQ hmat.out HO.out j1 hd0))
            go_wp2_with fail
            go_roundw
            case rel => exact ⟨j + 1, by omega, by go_num, Below.drewN' hD _, fun c hc => by
              by_cases e : c = j
              · subst e; exact HT.out.trans HP.out
              · exact hR.out c (by omega)⟩
            case measure => simp [intOf]; omega
          · have n1 : (((jN m a (mN m b d) : Nat) : Int) != ((mN m (jN m a b) d : Nat) : Int)) = true := by rw [bne_iff_ne]; omega
            have HP : Hid (modP m a b d = false) := by show _ = _; unfold modP; rw [l1, decide_eq_false heq]; rfl
            have HF : Hid (modV m m.n z = false) := by
              show _ = _
              unfold modV
              rw [HL.out, ← all3_mod, all3_fails ha0 hb0 hd0 HP.out]; rfl
            rw [z1] at c2
            clear l1 z1 heq hLr
            go_wp2_with fail
            go_quiet (first | (go_at_call 46; exact meetQ hmat.out HO.out hb0 hd0) | (go_at_call 45; exact joinQ hmat.out HO.out ha0 m1) | (go_at_call 45; exact joinQ hmat.out HO.out ha0 hb0) | (go_at_call 46; exact meetQ hmat.out HO.out j1 hd0))
            go_wp2_with fail
            go_ret
            exact ⟨ret_bool HF.out.symm, hX3.below.trans ((Below.drewN' hD _).mono hX3.below.size)⟩
        · have HP : Hid (modP m a b d = true) := by show _ = _; unfold modP; rw [l1]; rfl
          rw [z1] at c2
          clear l1 z1 hLr
          go_wp2_with fail
          go_quiet (first | (go_at_call 46; exact meetQ hmat.out HO.out hb0 hd0) | (go_at_call 45; exact joinQ hmat.out HO.out ha0 m1) | (go_at_call 45; exact joinQ hmat.out HO.out ha0 hb0) | (go_at_call 46; exact meetQ hmat.out HO.out j1 hd0))
          go_wp2_with fail
          go_roundw
          case rel => exact ⟨j + 1, by omega, by go_num, Below.drewN' hD _, fun c hc => by
            by_cases e : c = j
            · subst e; exact HT.out.trans HP.out
            · exact hR.out c (by omega)⟩
          case measure => simp [intOf]; omega
      · have hlt' : ¬ (j : Int) < (N3 : Int) := by omega
        have HT : Hid (modV m m.n z = true) := by show _ = _; unfold modV; rw [HL.out, ← all3_mod, (all3_trip hpos).2 fun c hc => hR.out c (by have := HN3.out; omega)]; rfl
        go_wp2_with fail
        go_ret
        exact ⟨ret_bool HT.out.symm, hX3.below.trans (hD.mono hX3.below.size)⟩

set_option maxRecDepth 100000 in
set_option maxHeartbeats 4000000 in
theorem spec_PentagonOf {w : World} {B : Nat} {ua : Option Addr} {l : Lay} {m : Mx} {na : Option Addr} {g o k nc : Nat} {z : Nat → Int} (h : LogAt w B ua l m na g o k z) :
    Calls Try.prog 21 #[.agg #[.slice ua m.n l.cap, .slice na k nc]] w fun e w' => e = .returned (pentV m k z) ∧ Below w.heap.size w w' := by
  have hX := BoxN.start w #[.slice ua m.n l.cap, .slice na k nc] 26
  have h1 := Lib.hid (h.alloc (.cells #[.slice ua m.n l.cap, .slice na k nc] 26))
  have q0 := hX.cell 0 rfl
  have q1 := hX.cell 1 rfl
  have hkk := h.hk
  clear h
  cases hl : logicB m k z with
  | false =>
    have HL := Lib.hid hl
    have HF := Lib.hid (pent_no_logic hl)
    clear hl
    go_enter Try.func21, Try.ntmps21
    go_wp2_with fail
    generalize hW : w.alloc (.cells #[.slice ua m.n l.cap, .slice na k nc] 26) = W at h1 hX q0 q1 ⊢
    clear hW
    go_at_call 22
    refine (spec_LogicOk h1.out).mono ?_
    rintro e w3 ⟨rfl, b3⟩
    rw [HL.out]
    have hX3 := hX.step b3
    clear q0 q1
    go_wp2_with fail
    refine bodyPost_ret (v := .tuple #[.int .i64 (-1), .int .i64 (-1), .int .i64 (-1), .bool false]) (by simp [results, Try.results21, go_sem]) rfl ⟨by rw [HF.out], hX3.below⟩
  | true =>
    have hlog := logicB_is hl
    obtain ⟨y0, o', hO0⟩ := hlog.ortho
    have hkn : k = m.n := hlog.pair.len
    subst hkn
    have hO := hO0.own
    have hn := hO.lat.order.top
    have hpos : 0 < m.n := hO.lat.order.pos
    have HO := Lib.hid hO
    have HL := Lib.hid hl
    have HS := Lib.hid hO.lat.order.sq
    obtain ⟨e0, _, _⟩ := h1.out.mat.sq HS.out hpos hpos
    obtain rfl := e0
    have hn3 : m.n * m.n * m.n ≤ 1728 := by
      have h9 : m.n * m.n ≤ 12 * 12 := Nat.mul_le_mul hn hn
      have h8 : m.n * m.n * m.n ≤ 144 * 12 := Nat.mul_le_mul h9 hn
      omega
    have hn2 : m.n * m.n ≤ 144 := Nat.mul_le_mul hn hn
    obtain ⟨N3, hN3⟩ : ∃ N3, N3 = m.n * m.n * m.n := ⟨_, rfl⟩
    rw [← hN3] at hn3
    have em2 : wrap64 ((m.n : Int) * (m.n : Int)) = (m.n : Int) * (m.n : Int) := by
      have e : (m.n : Int) * (m.n : Int) = ((m.n * m.n : Nat) : Int) := by simp
      rw [e]; exact IntWalk.wrap64_in _ (by omega)
    have em3 : wrap64 ((m.n : Int) * (m.n : Int) * (m.n : Int)) = (N3 : Int) := by
      have e : (m.n : Int) * (m.n : Int) * (m.n : Int) = (N3 : Int) := by rw [hN3]; simp
      rw [e]; exact IntWalk.wrap64_in _ (by omega)
    have HN3 := Lib.hid hN3
    clear hN3 hn2
    clear hl hO hlog hO0
    go_enter Try.func21, Try.ntmps21
    go_wp2_with fail
    generalize hW : w.alloc (.cells #[.slice (some ⟨l.b, l.o, none⟩) m.n l.cap, .slice na m.n nc] 26) = W at h1 hX q0 q1 ⊢
    clear hW
    go_at_call 22
    refine (spec_LogicOk h1.out).mono ?_
    rintro e w3 ⟨rfl, b3⟩
    rw [HL.out]
    have hX3 := hX.step b3
    have h3 := Lib.hid (h1.out.step b3)
    clear q0 q1 h1 hX
    go_wp2_with fail
    go_loopw [7] (fun i wr => ∃ j : Nat, j ≤ N3 ∧ i = .int .i64 j ∧ Below w3.heap.size w3 wr ∧ Hid (∀ c, c < j → pentP m (c / m.n / m.n) (c / m.n % m.n) (c % m.n) = false)) (fun i _ => N3 - (intOf i).toNat)
    case atStart => exact ⟨0, Nat.zero_le _, rfl, Below.refl _ _, fun c hc => absurd hc (Nat.not_lt_zero _)⟩
    case round =>
      obtain ⟨j, hj, rfl, hD, hR⟩ := hrel
      by_cases hlt : j < N3
      · have hlt' : (j : Int) < (N3 : Int) := by omega
        have hXr := hX3.step hD
        have hLr := Lib.hid (h3.out.step hD)
        have q0 := hXr.cell 0 rfl
        have q1 := hXr.cell 1 rfl
        have hnz : ¬ m.n = 0 := by omega
        have hj3 : j < m.n * m.n * m.n := by have := HN3.out; omega
        have ha0 : j / m.n / m.n < m.n := (Nat.div_lt_iff_lt_mul hpos).2 ((Nat.div_lt_iff_lt_mul hpos).2 hj3)
        have hb0 : j / m.n % m.n < m.n := Nat.mod_lt _ hpos
        have hd0 : j % m.n < m.n := Nat.mod_lt _ hpos
        have HJ3 := Lib.hid hj3
        have hQ0 := Nat.div_le_self j m.n
        have D1 : IntKind.i64.wrap ((j : Int) / (m.n : Int)) = ((j / m.n : Nat) : Int) := by rw [div_wrap (show j ≤ 100000 by omega), Int.natCast_ediv]
        have D2 : IntKind.i64.wrap (((j / m.n : Nat) : Int) / (m.n : Int)) = ((j / m.n / m.n : Nat) : Int) := by rw [div_wrap (show j / m.n ≤ 100000 by omega), ← Int.natCast_ediv]
        have R1 : (((j / m.n : Nat) : Int)).tmod (m.n : Int) = ((j / m.n % m.n : Nat) : Int) := by rw [Int.tmod_eq_emod_of_nonneg (Int.natCast_nonneg _), Int.natCast_emod]
        have R2 : (j : Int).tmod (m.n : Int) = ((j % m.n : Nat) : Int) := by rw [Int.tmod_eq_emod_of_nonneg (by omega), Int.natCast_emod]
        clear hj3 hQ0
        have hall := hR.out
        obtain ⟨Q, hQ⟩ : ∃ Q : Nat, Q = j / m.n := ⟨_, rfl⟩
        rw [← hQ] at D1 D2 R1 ha0 hb0
        obtain ⟨a, hae⟩ : ∃ a : Nat, a = Q / m.n := ⟨_, rfl⟩
        obtain ⟨b, hbe⟩ : ∃ b : Nat, b = Q % m.n := ⟨_, rfl⟩
        obtain ⟨d, hde⟩ : ∃ d : Nat, d = j % m.n := ⟨_, rfl⟩
        rw [← hae] at D2 ha0
        rw [← hbe] at R1 hb0
        rw [← hde] at R2 hd0
        have HT : Hid (pentP m (j / m.n / m.n) (j / m.n % m.n) (j % m.n) = pentP m a b d) := by show _ = _; rw [hae, hbe, hde, hQ]
        have HA : Hid (a = j / m.n / m.n ∧ b = j / m.n % m.n ∧ d = j % m.n) := ⟨by rw [hae, hQ], by rw [hbe, hQ], hde⟩
        clear hae hbe hde hQ hall
        have ha' : (a : Int) < m.n := by omega
        have hb' : (b : Int) < m.n := by omega
        have hd' : (d : Int) < m.n := by omega
        have hmat := Lib.hid hLr.out.mat
        obtain ⟨_, c1, c2⟩ := hLr.out.mat.sq HS.out ha0 hb0
        by_cases hab : a = b
        · have n1 : ((a : Int) != (b : Int)) = false := by rw [hab]; simp
          have HP : Hid (pentP m a b d = false) := by show _ = _; unfold pentP; rw [decide_eq_true hab]; rfl
          clear hab hLr c1 c2
          go_wp2_with fail
          go_quiet (first | (go_at_call 46; exact meetQ hmat.out HO.out ha0 hd0) | (go_at_call 46; exact meetQ hmat.out HO.out hb0 hd0) | (go_at_call 45; exact joinQ hmat.out HO.out ha0 hd0) | (go_at_call 45; exact joinQ hmat.out HO.out hb0 hd0))
          go_wp2_with fail
          go_roundw
          case rel => exact ⟨j + 1, by omega, by go_num, Below.drewN' hD _, fun c hc => by
            by_cases e : c = j
            · subst e; exact HT.out.trans HP.out
            · exact hR.out c (by omega)⟩
          case measure => simp [intOf]; omega
        · have n1 : ((a : Int) != (b : Int)) = true := by rw [bne_iff_ne]; omega
          rcases leB_cases HS.out ha0 hb0 with ⟨l1, z1⟩ | ⟨l1, z1⟩
          · rw [z1] at c2
            by_cases hm : mN m a d = mN m b d
            · have n2 : (((mN m a d : Nat) : Int) == ((mN m b d : Nat) : Int)) = true := by rw [hm]; simp
              by_cases hjn : jN m a d = jN m b d
              · have n3 : (((jN m a d : Nat) : Int) == ((jN m b d : Nat) : Int)) = true := by rw [hjn]; simp
                have HP : Hid (pentP m a b d = true) := by show _ = _; unfold pentP; rw [decide_eq_false hab, l1, decide_eq_true hm, decide_eq_true hjn]; rfl
                have HF : Hid (pentV m m.n z = .tuple #[.int .i64 (a : Int), .int .i64 (b : Int), .int .i64 (d : Int), .bool true]) := by
                  show _ = _
                  rw [pent_hit HL.out HJ3.out hR.out (HT.out.trans HP.out), ← HA.out.1, ← HA.out.2.1, ← HA.out.2.2]
                clear hab hLr l1 z1 hm hjn
                go_wp2_with fail
                go_quiet (first | (go_at_call 46; exact meetQ hmat.out HO.out ha0 hd0) | (go_at_call 46; exact meetQ hmat.out HO.out hb0 hd0) | (go_at_call 45; exact joinQ hmat.out HO.out ha0 hd0) | (go_at_call 45; exact joinQ hmat.out HO.out hb0 hd0))
                go_wp2_with fail
                refine bodyPost_ret (v := .tuple #[.int .i64 (a : Int), .int .i64 (b : Int), .int .i64 (d : Int), .bool true]) (by simp [results, Try.results21, go_sem]) rfl ⟨by rw [HF.out], hX3.below.trans ((Below.drewN' hD _).mono hX3.below.size)⟩
              · have n3 : (((jN m a d : Nat) : Int) == ((jN m b d : Nat) : Int)) = false := by rw [beq_eq_false_iff_ne]; omega
                have HP : Hid (pentP m a b d = false) := by show _ = _; unfold pentP; rw [decide_eq_false hjn, Bool.and_false]
                clear hab hLr l1 z1 hm hjn
                go_wp2_with fail
                go_quiet (first | (go_at_call 46; exact meetQ hmat.out HO.out ha0 hd0) | (go_at_call 46; exact meetQ hmat.out HO.out hb0 hd0) | (go_at_call 45; exact joinQ hmat.out HO.out ha0 hd0) | (go_at_call 45; exact joinQ hmat.out HO.out hb0 hd0))
                go_wp2_with fail
                go_roundw
                case rel => exact ⟨j + 1, by omega, by go_num, Below.drewN' hD _, fun c hc => by
                  by_cases e : c = j
                  · subst e; exact HT.out.trans HP.out
                  · exact hR.out c (by omega)⟩
                case measure => simp [intOf]; omega
            · have n2 : (((mN m a d : Nat) : Int) == ((mN m b d : Nat) : Int)) = false := by rw [beq_eq_false_iff_ne]; omega
              have HP : Hid (pentP m a b d = false) := by show _ = _; unfold pentP; rw [decide_eq_false hm, Bool.and_false, Bool.false_and]
              clear hab hLr l1 z1 hm
              go_wp2_with fail
              go_quiet (first | (go_at_call 46; exact meetQ hmat.out HO.out ha0 hd0) | (go_at_call 46; exact meetQ hmat.out HO.out hb0 hd0) | (go_at_call 45; exact joinQ hmat.out HO.out ha0 hd0) | (go_at_call 45; exact joinQ hmat.out HO.out hb0 hd0))
              go_wp2_with fail
              go_roundw
              case rel => exact ⟨j + 1, by omega, by go_num, Below.drewN' hD _, fun c hc => by
                by_cases e : c = j
                · subst e; exact HT.out.trans HP.out
                · exact hR.out c (by omega)⟩
              case measure => simp [intOf]; omega
          · have HP : Hid (pentP m a b d = false) := by show _ = _; unfold pentP; rw [l1, Bool.and_false, Bool.false_and, Bool.false_and]
            rw [z1] at c2
            clear hab hLr l1 z1
            go_wp2_with fail
            go_quiet (first | (go_at_call 46; exact meetQ hmat.out HO.out ha0 hd0) | (go_at_call 46; exact meetQ hmat.out HO.out hb0 hd0) | (go_at_call 45; exact joinQ hmat.out HO.out ha0 hd0) | (go_at_call 45; exact joinQ hmat.out HO.out hb0 hd0))
            go_wp2_with fail
            go_roundw
            case rel => exact ⟨j + 1, by omega, by go_num, Below.drewN' hD _, fun c hc => by
              by_cases e : c = j
              · subst e; exact HT.out.trans HP.out
              · exact hR.out c (by omega)⟩
            case measure => simp [intOf]; omega
      · have hlt' : ¬ (j : Int) < (N3 : Int) := by omega
        have HT : Hid (pentV m m.n z = .tuple #[.int .i64 (-1), .int .i64 (-1), .int .i64 (-1), .bool false]) := pent_none fun c hc => hR.out c (by have := HN3.out; omega)
        go_wp2_with fail
        refine bodyPost_ret (v := .tuple #[.int .i64 (-1), .int .i64 (-1), .int .i64 (-1), .bool false]) (by simp [results, Try.results21, go_sem]) rfl ⟨by rw [HT.out], hX3.below.trans (hD.mono hX3.below.size)⟩

set_option maxRecDepth 100000 in
set_option maxHeartbeats 4000000 in
theorem spec_HighOf {w : World} {B : Nat} {ua : Option Addr} {l : Lay} {m : Mx} {na : Option Addr} {g o k nc : Nat} {z : Nat → Int} {x : Int} (h : LogAt w B ua l m na g o k z) :
    Calls Try.prog 28 #[.agg #[.slice ua m.n l.cap, .slice na k nc], .int .i64 x] w fun e w' => e = .returned (.int .i64 (highV m k z x)) ∧ Below w.heap.size w w' := by
  have hX := BoxN.start w #[.slice ua m.n l.cap, .slice na k nc] 26
  have h1 := Lib.hid (h.alloc (.cells #[.slice ua m.n l.cap, .slice na k nc] 26))
  have q0 := hX.cell 0 rfl
  have q1 := hX.cell 1 rfl
  clear h
  cases hg : (logicB m k z && goodB m.n 1 (lone1 x)) with
  | false =>
    have HN : Hid (notV m k z x = -1) := by show _ = _; unfold notV; rw [if_neg (by rw [hg]; decide)]
    have HF : Hid (-1 = highV m k z x) := by show _ = _; unfold highV; rw [hg]; rfl
    clear hg
    go_enter Try.func28, Try.ntmps28
    go_wp2_with fail
    go_at_call 60
    refine (spec_NotOf h1.out).mono ?_
    rintro e w2 ⟨rfl, b2⟩
    rw [HN.out]
    have hX2 := hX.step b2
    clear q0 q1
    go_wp2_with fail
    go_ret
    exact ⟨ret_int HF.out, hX2.below⟩
  | true =>
    obtain ⟨a, o', y, rfl, ha, rfl, hl, hnot, hO⟩ : ∃ (a o' y : Nat), x = (a : Int) ∧ a < m.n ∧ k = m.n ∧ logicB m k z = true ∧ notV m k z x = (y : Int) ∧ Ortho m z (fun c => (z c).toNat) o' := by
      have hg2 := hg
      rw [Bool.and_eq_true] at hg2
      obtain ⟨x0, x1⟩ := good_lone hg2.2
      obtain ⟨a, rfl⟩ := Int.eq_ofNat_of_zero_le x0
      obtain ⟨y0, o', hO0⟩ := (logicB_is hg2.1).ortho
      have ha : a < m.n := by omega
      have hkn : k = m.n := (logicB_is hg2.1).pair.len
      refine ⟨a, o', (z a).toNat, rfl, ha, hkn, hg2.1, ?_, hO0.own⟩
      unfold notV
      rw [if_pos hg, Int.toNat_natCast]
      exact hO0.own.zy a ha
    have HNot := Lib.hid hnot
    have HV : Hid (((highN m a : Nat) : Int) = highV m m.n z (a : Int)) := by show _ = _; unfold highV; rw [if_pos hg]; rfl
    have hord := Lib.hid hO.lat.order
    have hc := cnt_le m a
    clear hg hnot hO hl
    go_enter Try.func28, Try.ntmps28
    go_wp2_with fail
    go_at_call 60
    refine (spec_NotOf h1.out).mono ?_
    rintro e w2 ⟨rfl, b2⟩
    rw [HNot.out]
    have hX2 := hX.step b2
    have h2 := Lib.hid (h1.out.step b2)
    have r0 := hX2.cell 0 rfl
    have hyn : ¬ ((y : Nat) : Int) < 0 := by omega
    clear q0 q1 hX h1
    go_wp2_with fail
    go_at_call 61
    refine (l8High_any hord.out _ a _ h2.out.mat ha hc).mono ?_
    rintro e w3 ⟨rfl, rfl⟩
    go_wp2_with fail
    go_ret
    exact ⟨ret_int HV.out, hX2.below⟩

end Go.Proofs.Ytanhogaekdcooaa
