import Derived.Test.YtnbglbhfclohjaaDoorZAa
import Derived.Test.YtnbglbhfclohjaaDoorZSh
namespace Go.Proofs.YtnbglbhfclohjaaDoor
open Go.RowKit Go.Deep

set_option maxRecDepth 100000 in
set_option maxHeartbeats 2000000 in
theorem l6Agree_any {w : World} {B : Nat} {ua : Option Addr} {l : Lay} {m : Mx} {na : Option Addr} {g o nc a b : Nat} {z : Nat → Int} {y : Nat → Nat} {o' : Nat} (h : LogAt w B ua l m na g o m.n z) (hO : Ortho m z y o') (ha : a < m.n) (hb : b < m.n) :
    Calls Tryd.prog 72 #[.agg #[.slice ua m.n l.cap, .slice na m.n nc], .int .i64 a, .int .i64 b] w fun e w' => e = .returned (.bool (agB m y a b && agB m y b a)) ∧ Below w.heap.size w w' := by
  have hX := BoxN.start w #[.slice ua m.n l.cap, .slice na m.n nc] 26
  have h1 := Lib.hid (h.alloc (.cells #[.slice ua m.n l.cap, .slice na m.n nc] 26))
  have q0 := hX.cell 0 rfl
  have q1 := hX.cell 1 rfl
  have HO := Lib.hid hO
  clear h hO
  go_enter Tryd.func72, Tryd.ntmps72
  go_wp2_with fail
  go_at_call 53
  refine (l5With_any h1.out HO.out ha hb).mono ?_
  rintro e w2 ⟨rfl, b2⟩
  have hX2 := hX.step b2
  have h2 := Lib.hid (h1.out.step b2)
  have r0 := hX2.cell 0 rfl
  have r1 := hX2.cell 1 rfl
  clear q0 q1
  cases g1 : agB m y a b with
  | false =>
    have G1 := Lib.hid g1
    clear g1
    go_wp2_with fail
    go_ret
    exact ⟨ret_bool (by rw [G1.out, Bool.false_and]), hX2.below⟩
  | true =>
    have G1 := Lib.hid g1
    clear g1
    go_wp2_with fail
    go_at_call 53
    refine (l5With_any h2.out HO.out hb ha).mono ?_
    rintro e w3 ⟨rfl, b3⟩
    have hX3 := hX2.step b3
    clear r0 r1
    go_wp2_with fail
    go_ret
    exact ⟨ret_bool (by rw [G1.out, Bool.true_and]), hX3.below⟩

set_option maxRecDepth 100000 in
set_option maxHeartbeats 4000000 in
theorem l6Split_any {w : World} {B : Nat} {ua : Option Addr} {l : Lay} {m : Mx} {na : Option Addr} {g o nc a b d : Nat} {z : Nat → Int} {y : Nat → Nat} {o' : Nat} (h : LogAt w B ua l m na g o m.n z) (hO : Ortho m z y o') (ha : a < m.n) (hb : b < m.n) (hd : d < m.n) :
    Calls Tryd.prog 86 #[.agg #[.slice ua m.n l.cap, .slice na m.n nc], .int .i64 a, .int .i64 b, .int .i64 d] w fun e w' => e = .returned (.bool (splitB m a b d)) ∧ Below w.heap.size w w' := by
  have hX := BoxN.start w #[.slice ua m.n l.cap, .slice na m.n nc] 26
  have h1 := Lib.hid (h.alloc (.cells #[.slice ua m.n l.cap, .slice na m.n nc] 26))
  have q0 := hX.cell 0 rfl
  have q1 := hX.cell 1 rfl
  have HO := Lib.hid hO
  have hmat := Lib.hid h1.out.mat
  have hB := hX.below
  have m1 := (HO.out.jG hb hd).lt
  have m2 := (HO.out.mG ha hb).lt
  have m3 := (HO.out.mG ha hd).lt
  clear h hO h1
  cases hk : splitB m a b d with
  | true =>
    have e1 : mN m a (jN m b d) = jN m (mN m a b) (mN m a d) := of_decide_eq_true hk
    have n1 : (((mN m a (jN m b d) : Nat) : Int) == ((jN m (mN m a b) (mN m a d) : Nat) : Int)) = true := by rw [e1]; simp
    clear hk e1
    go_enter Tryd.func86, Tryd.ntmps86
    go_wp2_with fail
    generalize w.alloc (.cells #[.slice ua m.n l.cap, .slice na m.n nc] 26) = W at hmat hX hB q0 q1 ⊢
    go_quiet (first | (go_at_call 79; exact joinQ hmat.out HO.out hb hd) | (go_at_call 75; exact meetQ hmat.out HO.out ha m1) | (go_at_call 75; exact meetQ hmat.out HO.out ha hb) | (go_at_call 75; exact meetQ hmat.out HO.out ha hd) | (go_at_call 79; exact joinQ hmat.out HO.out m2 m3))
    go_wp2_with fail
    go_ret
    exact ⟨rfl, Below.drewN' hB _⟩
  | false =>
    have e1 : ¬ mN m a (jN m b d) = jN m (mN m a b) (mN m a d) := of_decide_eq_false hk
    have n1 : (((mN m a (jN m b d) : Nat) : Int) == ((jN m (mN m a b) (mN m a d) : Nat) : Int)) = false := by rw [beq_eq_false_iff_ne]; omega
    clear hk e1
    go_enter Tryd.func86, Tryd.ntmps86
    go_wp2_with fail
    generalize w.alloc (.cells #[.slice ua m.n l.cap, .slice na m.n nc] 26) = W at hmat hX hB q0 q1 ⊢
    go_quiet (first | (go_at_call 79; exact joinQ hmat.out HO.out hb hd) | (go_at_call 75; exact meetQ hmat.out HO.out ha m1) | (go_at_call 75; exact meetQ hmat.out HO.out ha hb) | (go_at_call 75; exact meetQ hmat.out HO.out ha hd) | (go_at_call 79; exact joinQ hmat.out HO.out m2 m3))
    go_wp2_with fail
    go_ret
    exact ⟨rfl, Below.drewN' hB _⟩
end Go.Proofs.YtnbglbhfclohjaaDoor
namespace Go.Proofs.YtnbglbhfclohjaaDoor
open Go.RowKit Go.Deep

end Go.Proofs.YtnbglbhfclohjaaDoor
namespace Go.Proofs.YtnbglbhfclohjaaDoor
open Go.RowKit Go.Deep

noncomputable def boolV (m : Mx) (k : Nat) (z : Nat → Int) : Bool := logicB m k z && boolB m
/-- The three numbers that one number tells. -/
def tripB (m : Mx) (k : Nat) : Bool := splitB m (k / m.n / m.n) (k / m.n % m.n) (k % m.n)
theorem trip_all {m : Mx} (hp : 0 < m.n) : boolB m = true ↔ ∀ k, k < m.n * m.n * m.n → tripB m k = true := by
  rw [bool_iff]
  constructor
  · intro h k hk
    have h1 : k / m.n < m.n * m.n := (Nat.div_lt_iff_lt_mul hp).2 hk
    exact h _ _ _ ((Nat.div_lt_iff_lt_mul hp).2 h1) (Nat.mod_lt _ hp) (Nat.mod_lt _ hp)
  · intro h a b d ha hb hd
    have h1 : (a * m.n + b) * m.n + d < m.n * m.n * m.n := by
      have h2 : a * m.n + b < m.n * m.n := by
        have : (a + 1) * m.n ≤ m.n * m.n := Nat.mul_le_mul_right _ ha
        rw [Nat.add_mul, Nat.one_mul] at this
        omega
      have : (a * m.n + b + 1) * m.n ≤ m.n * m.n * m.n := Nat.mul_le_mul_right _ h2
      rw [Nat.add_mul, Nat.one_mul] at this
      omega
    have h3 := h _ h1
    unfold tripB at h3
    have e1 : ((a * m.n + b) * m.n + d) / m.n = a * m.n + b := by
      rw [Nat.add_comm, Nat.add_mul_div_right _ _ hp, Nat.div_eq_of_lt hd, Nat.zero_add]
    have e2 : ((a * m.n + b) * m.n + d) % m.n = d := by
      rw [Nat.add_comm, Nat.add_mul_mod_self_right, Nat.mod_eq_of_lt hd]
    have e3 : (a * m.n + b) / m.n = a := by
      rw [Nat.add_comm, Nat.add_mul_div_right _ _ hp, Nat.div_eq_of_lt hb, Nat.zero_add]
    have e4 : (a * m.n + b) % m.n = b := by
      rw [Nat.add_comm, Nat.add_mul_mod_self_right, Nat.mod_eq_of_lt hb]
    rw [e1, e2, e3, e4] at h3
    exact h3
theorem div_wrap {j n : Nat} (hj : j ≤ 100000) : IntKind.i64.wrap ((j : Int) / (n : Int)) = (j : Int) / (n : Int) := by
  rw [← Int.natCast_ediv]
  have h := Nat.div_le_self j n
  generalize j / n = q at h
  rw [IntKind.wrap_i64]
  omega
theorem div2_wrap {j n : Nat} (hj : j ≤ 100000) : IntKind.i64.wrap (((j : Int) / (n : Int)).tdiv (n : Int)) = (j : Int) / (n : Int) / (n : Int) := by
  rw [← Int.natCast_ediv]
  have h := Nat.div_le_self j n
  generalize j / n = q at h
  rw [Int.tdiv_eq_ediv_of_nonneg (Int.natCast_nonneg q)]
  exact div_wrap (by omega)
theorem div_mod (j n : Nat) : ((j : Int) / (n : Int)).tmod (n : Int) = (j : Int) / (n : Int) % (n : Int) := by
  rw [← Int.natCast_ediv]
  exact Int.tmod_eq_emod_of_nonneg (Int.natCast_nonneg _)
theorem bool_false {m : Mx} (hp : 0 < m.n) {k : Nat} (hk : k < m.n * m.n * m.n) (h : tripB m k = false) : boolB m = false := by
  cases e : boolB m with
  | false => rfl
  | true => rw [(trip_all hp).1 e k hk] at h; cases h

set_option maxRecDepth 100000 in
set_option maxHeartbeats 4000000 in
theorem spec_BooleanOk {w : World} {B : Nat} {ua : Option Addr} {l : Lay} {m : Mx} {na : Option Addr} {g o k nc : Nat} {z : Nat → Int} (h : LogAt w B ua l m na g o k z) :
    Calls Tryd.prog 35 #[.agg #[.slice ua m.n l.cap, .slice na k nc]] w fun e w' => e = .returned (.bool (boolV m k z)) ∧ Below w.heap.size w w' := by
  have hX := BoxN.start w #[.slice ua m.n l.cap, .slice na k nc] 26
  have h1 := Lib.hid (h.alloc (.cells #[.slice ua m.n l.cap, .slice na k nc] 26))
  have q0 := hX.cell 0 rfl
  have q1 := hX.cell 1 rfl
  have hkk := h.hk
  clear h
  cases hl : logicB m k z with
  | false =>
    have HL := Lib.hid hl
    have HF : Hid (false = boolV m k z) := by show _ = _; unfold boolV; rw [hl]; rfl
    clear hl
    go_enter Tryd.func35, Tryd.ntmps35
    go_wp2_with fail
    generalize hW : w.alloc (.cells #[.slice ua m.n l.cap, .slice na k nc] 26) = W at h1 hX q0 q1 ⊢
    clear hW
    go_at_call 26
    refine (spec_LogicOk h1.out).mono ?_
    rintro e w3 ⟨rfl, b3⟩
    rw [HL.out]
    have hX3 := hX.step b3
    clear q0 q1
    go_wp2_with fail
    go_ret
    exact ⟨ret_bool HF.out, hX3.below⟩
  | true =>
    have hlog := logicB_is hl
    obtain ⟨y0, o', hO0⟩ := hlog.ortho
    have hkn : k = m.n := hlog.pair.len
    subst hkn
    have hO := hO0.own
    have hn := hO.lat.order.top
    have hpos : 0 < m.n := hO.lat.order.pos
    have HV : Hid (boolB m = boolV m m.n z) := by show _ = _; unfold boolV; rw [hl]; rfl
    have HO := Lib.hid hO
    have HL := Lib.hid hl
    have hn3 : m.n * m.n * m.n ≤ 1728 := by
      have h9 : m.n * m.n ≤ 12 * 12 := Nat.mul_le_mul hn hn
      have h8 : m.n * m.n * m.n ≤ 144 * 12 := Nat.mul_le_mul h9 hn
      omega
    have hn2 : m.n * m.n ≤ 144 := Nat.mul_le_mul hn hn
    obtain ⟨N3, hN3⟩ : ∃ N3, N3 = m.n * m.n * m.n := ⟨_, rfl⟩
    rw [← hN3] at hn3
    have em2 : wrap64 ((m.n : Int) * (m.n : Int)) = (m.n : Int) * (m.n : Int) := by
      have e : (m.n : Int) * (m.n : Int) = ((m.n * m.n : Nat) : Int) := by simp
      rw [e]; exact IntWalk.wrap64_in _ (by omega)
    have em3 : wrap64 ((m.n : Int) * (m.n : Int) * (m.n : Int)) = (N3 : Int) := by
      have e : (m.n : Int) * (m.n : Int) * (m.n : Int) = (N3 : Int) := by rw [hN3]; simp
      rw [e]; exact IntWalk.wrap64_in _ (by omega)
    have HN3 := Lib.hid hN3
    clear hN3 hn2
    clear hl hO hlog hO0
    go_enter Tryd.func35, Tryd.ntmps35
    go_wp2_with fail
    generalize hW : w.alloc (.cells #[.slice ua m.n l.cap, .slice na m.n nc] 26) = W at h1 hX q0 q1 ⊢
    clear hW
    go_at_call 26
    refine (spec_LogicOk h1.out).mono ?_
    rintro e w3 ⟨rfl, b3⟩
    rw [HL.out]
    have hX3 := hX.step b3
    have h3 := Lib.hid (h1.out.step b3)
    clear q0 q1 h1 hX
    go_wp2_with fail
    go_loopw [4] (fun i wr => ∃ j : Nat, j ≤ N3 ∧ i = .int .i64 j ∧ Below w3.heap.size w3 wr ∧ Hid (∀ c, c < j → tripB m c = true)) (fun i _ => N3 - (intOf i).toNat)
    case atStart => exact ⟨0, Nat.zero_le _, rfl, Below.refl _ _, fun c hc => absurd hc (Nat.not_lt_zero _)⟩
    case round =>
      obtain ⟨j, hj, rfl, hD, hR⟩ := hrel
      by_cases hlt : j < N3
      · have hlt' : (j : Int) < (N3 : Int) := by omega
        have hXr := hX3.step hD
        have q0 := hXr.cell 0 rfl
        have q1 := hXr.cell 1 rfl
        go_wp2_with fail
        have hS0 : (fun w' => w'.cell? ⟨w.heap.size, 0, none⟩ = some (.slice ua m.n l.cap) ∧ w'.cell? ⟨w.heap.size, 1, none⟩ = some (.slice na m.n nc)) wr.drew := ⟨(hXr.step (Below.refl _ wr).drew).cell 0 rfl, (hXr.step (Below.refl _ wr).drew).cell 1 rfl⟩
        have bdr : Below w3.heap.size w3 wr.drew := hD.trans ((Below.refl _ wr).drew.mono hD.size)
        have hLr := Lib.hid (h3.out.step bdr)
        have hXd := hX3.step bdr
        have hnz : ¬ m.n = 0 := by omega
        have D1 := Lib.hid (div_wrap (n := m.n) (show j ≤ 100000 by omega))
        have D2 := Lib.hid (div2_wrap (n := m.n) (show j ≤ 100000 by omega))
        have R1 := Lib.hid (div_mod j m.n)
        have R2 : Hid ((j : Int).tmod (m.n : Int) = (j : Int) % (m.n : Int)) := Int.tmod_eq_emod_of_nonneg (by omega)
        have hj3 : j < m.n * m.n * m.n := by have := HN3.out; omega
        have ha : j / m.n / m.n < m.n := (Nat.div_lt_iff_lt_mul hpos).2 ((Nat.div_lt_iff_lt_mul hpos).2 hj3)
        have hb : j / m.n % m.n < m.n := Nat.mod_lt _ hpos
        have hd : j % m.n < m.n := Nat.mod_lt _ hpos
        clear hj3
        cases htr : tripB m j with
        | true =>
          have HTr : Hid (splitB m (j / m.n / m.n) (j / m.n % m.n) (j % m.n) = true) := htr
          have HP := Lib.hid htr
          clear htr
          refine region_plain (fuel := 16) (listed := #[false, false, false, false, false, false, false, false, false, false, false, false, false, false, false, false]) (fun w' => w'.cell? ⟨w.heap.size, 0, none⟩ = some (.slice ua m.n l.cap) ∧ w'.cell? ⟨w.heap.size, 1, none⟩ = some (.slice na m.n nc)) (by kernel_rfl) (by kernel_rfl) (by kernel_rfl) ?_
          refine hold_take (i := 0) (d := 20) (v := ?vrt0) (listed' := #[true, false, false, false, false, false, false, false, false, false, false, false, false, false, false, false]) rfl (by kernel_rfl) (by kernel_rfl) (by kernel_rfl) rfl (by rfl) (by kernel_rfl) hS0 ?hrt0 ?rrt0
          case hrt0 =>
            intro w' hSw
            obtain ⟨k0, k1⟩ := hSw
            go_simp
            try with_reducible rfl
          simp only [List.setIfInBounds_toArray, List.set_cons_zero, List.set_cons_succ]
          refine hold_take (i := 1) (d := 21) (v := ?vrt1) (listed' := #[true, true, false, false, false, false, false, false, false, false, false, false, false, false, false, false]) rfl (by kernel_rfl) (by kernel_rfl) (by kernel_rfl) rfl (by rfl) (by kernel_rfl) hS0 ?hrt1 ?rrt1
          case hrt1 =>
            intro w' hSw
            obtain ⟨k0, k1⟩ := hSw
            go_simp
            try with_reducible rfl
          simp only [List.setIfInBounds_toArray, List.set_cons_zero, List.set_cons_succ]
          refine hold_take (i := 2) (d := 22) (v := ?vrt2) (listed' := #[true, true, true, false, false, false, false, false, false, false, false, false, false, false, false, false]) rfl (by kernel_rfl) (by kernel_rfl) (by kernel_rfl) rfl (by rfl) (by kernel_rfl) hS0 ?hrt2 ?rrt2
          case hrt2 =>
            intro w' hSw
            obtain ⟨k0, k1⟩ := hSw
            go_simp
            try with_reducible rfl
          simp only [List.setIfInBounds_toArray, List.set_cons_zero, List.set_cons_succ]
          refine hold_take (i := 3) (d := 23) (v := .int .i64 ((j / m.n : Nat) : Int)) (listed' := #[true, true, true, true, false, false, false, false, false, false, false, false, false, false, false, false]) rfl (by kernel_rfl) (by kernel_rfl) (by kernel_rfl) rfl (by rfl) (by kernel_rfl) hS0 ?hrt3 ?rrt3
          case hrt3 =>
            intro w' hSw
            obtain ⟨k0, k1⟩ := hSw
            go_simp
            simp only [D1.out]
          simp only [List.setIfInBounds_toArray, List.set_cons_zero, List.set_cons_succ]
          refine hold_take (i := 4) (d := 24) (v := ?vrt4) (listed' := #[true, true, true, true, true, false, false, false, false, false, false, false, false, false, false, false]) rfl (by kernel_rfl) (by kernel_rfl) (by kernel_rfl) rfl (by rfl) (by kernel_rfl) hS0 ?hrt4 ?rrt4
          case hrt4 =>
            intro w' hSw
            obtain ⟨k0, k1⟩ := hSw
            go_simp
            try with_reducible rfl
          simp only [List.setIfInBounds_toArray, List.set_cons_zero, List.set_cons_succ]
          refine hold_take (i := 5) (d := 25) (v := .int .i64 ((j / m.n / m.n : Nat) : Int)) (listed' := #[true, true, true, true, true, true, false, false, false, false, false, false, false, false, false, false]) rfl (by kernel_rfl) (by kernel_rfl) (by kernel_rfl) rfl (by rfl) (by kernel_rfl) hS0 ?hrt5 ?rrt5
          case hrt5 =>
            intro w' hSw
            obtain ⟨k0, k1⟩ := hSw
            go_simp
            simp only [D2.out]
          simp only [List.setIfInBounds_toArray, List.set_cons_zero, List.set_cons_succ]
          refine hold_take (i := 6) (d := 26) (v := ?vrt6) (listed' := #[true, true, true, true, true, true, true, false, false, false, false, false, false, false, false, false]) rfl (by kernel_rfl) (by kernel_rfl) (by kernel_rfl) rfl (by rfl) (by kernel_rfl) hS0 ?hrt6 ?rrt6
          case hrt6 =>
            intro w' hSw
            obtain ⟨k0, k1⟩ := hSw
            go_simp
            try with_reducible rfl
          simp only [List.setIfInBounds_toArray, List.set_cons_zero, List.set_cons_succ]
          refine hold_take (i := 7) (d := 27) (v := ?vrt7) (listed' := #[true, true, true, true, true, true, true, true, false, false, false, false, false, false, false, false]) rfl (by kernel_rfl) (by kernel_rfl) (by kernel_rfl) rfl (by rfl) (by kernel_rfl) hS0 ?hrt7 ?rrt7
          case hrt7 =>
            intro w' hSw
            obtain ⟨k0, k1⟩ := hSw
            go_simp
            try with_reducible rfl
          simp only [List.setIfInBounds_toArray, List.set_cons_zero, List.set_cons_succ]
          refine hold_take (i := 8) (d := 28) (v := .int .i64 ((j / m.n : Nat) : Int)) (listed' := #[true, true, true, true, true, true, true, true, true, false, false, false, false, false, false, false]) rfl (by kernel_rfl) (by kernel_rfl) (by kernel_rfl) rfl (by rfl) (by kernel_rfl) hS0 ?hrt8 ?rrt8
          case hrt8 =>
            intro w' hSw
            obtain ⟨k0, k1⟩ := hSw
            go_simp
            simp only [D1.out]
          simp only [List.setIfInBounds_toArray, List.set_cons_zero, List.set_cons_succ]
          refine hold_take (i := 9) (d := 29) (v := ?vrt9) (listed' := #[true, true, true, true, true, true, true, true, true, true, false, false, false, false, false, false]) rfl (by kernel_rfl) (by kernel_rfl) (by kernel_rfl) rfl (by rfl) (by kernel_rfl) hS0 ?hrt9 ?rrt9
          case hrt9 =>
            intro w' hSw
            obtain ⟨k0, k1⟩ := hSw
            go_simp
            try with_reducible rfl
          simp only [List.setIfInBounds_toArray, List.set_cons_zero, List.set_cons_succ]
          refine hold_take (i := 10) (d := 30) (v := .int .i64 ((j / m.n % m.n : Nat) : Int)) (listed' := #[true, true, true, true, true, true, true, true, true, true, true, false, false, false, false, false]) rfl (by kernel_rfl) (by kernel_rfl) (by kernel_rfl) rfl (by rfl) (by kernel_rfl) hS0 ?hrt10 ?rrt10
          case hrt10 =>
            intro w' hSw
            obtain ⟨k0, k1⟩ := hSw
            go_simp
            simp only [R1.out]
          simp only [List.setIfInBounds_toArray, List.set_cons_zero, List.set_cons_succ]
          refine hold_take (i := 11) (d := 31) (v := ?vrt11) (listed' := #[true, true, true, true, true, true, true, true, true, true, true, true, false, false, false, false]) rfl (by kernel_rfl) (by kernel_rfl) (by kernel_rfl) rfl (by rfl) (by kernel_rfl) hS0 ?hrt11 ?rrt11
          case hrt11 =>
            intro w' hSw
            obtain ⟨k0, k1⟩ := hSw
            go_simp
            try with_reducible rfl
          simp only [List.setIfInBounds_toArray, List.set_cons_zero, List.set_cons_succ]
          refine hold_take (i := 12) (d := 32) (v := ?vrt12) (listed' := #[true, true, true, true, true, true, true, true, true, true, true, true, true, false, false, false]) rfl (by kernel_rfl) (by kernel_rfl) (by kernel_rfl) rfl (by rfl) (by kernel_rfl) hS0 ?hrt12 ?rrt12
          case hrt12 =>
            intro w' hSw
            obtain ⟨k0, k1⟩ := hSw
            go_simp
            try with_reducible rfl
          simp only [List.setIfInBounds_toArray, List.set_cons_zero, List.set_cons_succ]
          refine hold_take (i := 13) (d := 33) (v := .int .i64 ((j % m.n : Nat) : Int)) (listed' := #[true, true, true, true, true, true, true, true, true, true, true, true, true, true, false, false]) rfl (by kernel_rfl) (by kernel_rfl) (by kernel_rfl) rfl (by rfl) (by kernel_rfl) hS0 ?hrt13 ?rrt13
          case hrt13 =>
            intro w' hSw
            obtain ⟨k0, k1⟩ := hSw
            go_simp
            simp only [R2.out]
          simp only [List.setIfInBounds_toArray, List.set_cons_zero, List.set_cons_succ]
          refine hold_call (i := 14) (d := 34) (listed' := #[true, true, true, true, true, true, true, true, true, true, true, true, true, true, true, false]) rfl (by kernel_rfl) rfl (by rfl) (by kernel_rfl) ?hert14 (l6Split_any (nc := nc) hLr.out HO.out ha hb hd) ?hcrt14
          case hert14 => go_simp
          rintro e w5 ⟨rfl, b5⟩
          have hSk : (fun w' => w'.cell? ⟨w.heap.size, 0, none⟩ = some (.slice ua m.n l.cap) ∧ w'.cell? ⟨w.heap.size, 1, none⟩ = some (.slice na m.n nc)) w5 := ⟨(hXd.step b5).cell 0 rfl, (hXd.step b5).cell 1 rfl⟩
          have hB5 := bdr.trans (b5.mono bdr.size)
          rw [HTr.out]
          refine ⟨_, rfl, hSk, ?_⟩
          simp only [List.setIfInBounds_toArray, List.set_cons_zero, List.set_cons_succ]
          refine hold_take (i := 15) (d := 35) (v := ?vrt15) (listed' := #[true, true, true, true, true, true, true, true, true, true, true, true, true, true, true, true]) rfl (by kernel_rfl) (by kernel_rfl) (by kernel_rfl) rfl (by rfl) (by kernel_rfl) hSk ?hrt15 ?rrt15
          case hrt15 =>
            intro w' hSw
            obtain ⟨k0, k1⟩ := hSw
            go_simp
            try with_reducible rfl
          simp only [List.setIfInBounds_toArray, List.set_cons_zero, List.set_cons_succ]
          refine hold_done (by kernel_rfl) ?_ _
          go_wp2_with fail
          go_roundw
          case rel => exact ⟨j + 1, by omega, by go_num, hB5, fun c hc => by
            by_cases e : c = j
            · subst e; exact HP.out
            · exact hR.out c (by omega)⟩
          case measure => simp [intOf]; omega
        | false =>
          have HTr : Hid (splitB m (j / m.n / m.n) (j / m.n % m.n) (j % m.n) = false) := htr
          have HF : Hid (false = boolV m m.n z) := by show _ = _; rw [← HV.out]; exact (bool_false hpos (by have := HN3.out; omega) htr).symm
          clear htr
          refine region_plain (fuel := 16) (listed := #[false, false, false, false, false, false, false, false, false, false, false, false, false, false, false, false]) (fun w' => w'.cell? ⟨w.heap.size, 0, none⟩ = some (.slice ua m.n l.cap) ∧ w'.cell? ⟨w.heap.size, 1, none⟩ = some (.slice na m.n nc)) (by kernel_rfl) (by kernel_rfl) (by kernel_rfl) ?_
          refine hold_take (i := 0) (d := 20) (v := ?vrf0) (listed' := #[true, false, false, false, false, false, false, false, false, false, false, false, false, false, false, false]) rfl (by kernel_rfl) (by kernel_rfl) (by kernel_rfl) rfl (by rfl) (by kernel_rfl) hS0 ?hrf0 ?rrf0
          case hrf0 =>
            intro w' hSw
            obtain ⟨k0, k1⟩ := hSw
            go_simp
            try with_reducible rfl
          simp only [List.setIfInBounds_toArray, List.set_cons_zero, List.set_cons_succ]
          refine hold_take (i := 1) (d := 21) (v := ?vrf1) (listed' := #[true, true, false, false, false, false, false, false, false, false, false, false, false, false, false, false]) rfl (by kernel_rfl) (by kernel_rfl) (by kernel_rfl) rfl (by rfl) (by kernel_rfl) hS0 ?hrf1 ?rrf1
          case hrf1 =>
            intro w' hSw
            obtain ⟨k0, k1⟩ := hSw
            go_simp
            try with_reducible rfl
          simp only [List.setIfInBounds_toArray, List.set_cons_zero, List.set_cons_succ]
          refine hold_take (i := 2) (d := 22) (v := ?vrf2) (listed' := #[true, true, true, false, false, false, false, false, false, false, false, false, false, false, false, false]) rfl (by kernel_rfl) (by kernel_rfl) (by kernel_rfl) rfl (by rfl) (by kernel_rfl) hS0 ?hrf2 ?rrf2
          case hrf2 =>
            intro w' hSw
            obtain ⟨k0, k1⟩ := hSw
            go_simp
            try with_reducible rfl
          simp only [List.setIfInBounds_toArray, List.set_cons_zero, List.set_cons_succ]
          refine hold_take (i := 3) (d := 23) (v := .int .i64 ((j / m.n : Nat) : Int)) (listed' := #[true, true, true, true, false, false, false, false, false, false, false, false, false, false, false, false]) rfl (by kernel_rfl) (by kernel_rfl) (by kernel_rfl) rfl (by rfl) (by kernel_rfl) hS0 ?hrf3 ?rrf3
          case hrf3 =>
            intro w' hSw
            obtain ⟨k0, k1⟩ := hSw
            go_simp
            simp only [D1.out]
          simp only [List.setIfInBounds_toArray, List.set_cons_zero, List.set_cons_succ]
          refine hold_take (i := 4) (d := 24) (v := ?vrf4) (listed' := #[true, true, true, true, true, false, false, false, false, false, false, false, false, false, false, false]) rfl (by kernel_rfl) (by kernel_rfl) (by kernel_rfl) rfl (by rfl) (by kernel_rfl) hS0 ?hrf4 ?rrf4
          case hrf4 =>
            intro w' hSw
            obtain ⟨k0, k1⟩ := hSw
            go_simp
            try with_reducible rfl
          simp only [List.setIfInBounds_toArray, List.set_cons_zero, List.set_cons_succ]
          refine hold_take (i := 5) (d := 25) (v := .int .i64 ((j / m.n / m.n : Nat) : Int)) (listed' := #[true, true, true, true, true, true, false, false, false, false, false, false, false, false, false, false]) rfl (by kernel_rfl) (by kernel_rfl) (by kernel_rfl) rfl (by rfl) (by kernel_rfl) hS0 ?hrf5 ?rrf5
          case hrf5 =>
            intro w' hSw
            obtain ⟨k0, k1⟩ := hSw
            go_simp
            simp only [D2.out]
          simp only [List.setIfInBounds_toArray, List.set_cons_zero, List.set_cons_succ]
          refine hold_take (i := 6) (d := 26) (v := ?vrf6) (listed' := #[true, true, true, true, true, true, true, false, false, false, false, false, false, false, false, false]) rfl (by kernel_rfl) (by kernel_rfl) (by kernel_rfl) rfl (by rfl) (by kernel_rfl) hS0 ?hrf6 ?rrf6
          case hrf6 =>
            intro w' hSw
            obtain ⟨k0, k1⟩ := hSw
            go_simp
            try with_reducible rfl
          simp only [List.setIfInBounds_toArray, List.set_cons_zero, List.set_cons_succ]
          refine hold_take (i := 7) (d := 27) (v := ?vrf7) (listed' := #[true, true, true, true, true, true, true, true, false, false, false, false, false, false, false, false]) rfl (by kernel_rfl) (by kernel_rfl) (by kernel_rfl) rfl (by rfl) (by kernel_rfl) hS0 ?hrf7 ?rrf7
          case hrf7 =>
            intro w' hSw
            obtain ⟨k0, k1⟩ := hSw
            go_simp
            try with_reducible rfl
          simp only [List.setIfInBounds_toArray, List.set_cons_zero, List.set_cons_succ]
          refine hold_take (i := 8) (d := 28) (v := .int .i64 ((j / m.n : Nat) : Int)) (listed' := #[true, true, true, true, true, true, true, true, true, false, false, false, false, false, false, false]) rfl (by kernel_rfl) (by kernel_rfl) (by kernel_rfl) rfl (by rfl) (by kernel_rfl) hS0 ?hrf8 ?rrf8
          case hrf8 =>
            intro w' hSw
            obtain ⟨k0, k1⟩ := hSw
            go_simp
            simp only [D1.out]
          simp only [List.setIfInBounds_toArray, List.set_cons_zero, List.set_cons_succ]
          refine hold_take (i := 9) (d := 29) (v := ?vrf9) (listed' := #[true, true, true, true, true, true, true, true, true, true, false, false, false, false, false, false]) rfl (by kernel_rfl) (by kernel_rfl) (by kernel_rfl) rfl (by rfl) (by kernel_rfl) hS0 ?hrf9 ?rrf9
          case hrf9 =>
            intro w' hSw
            obtain ⟨k0, k1⟩ := hSw
            go_simp
            try with_reducible rfl
          simp only [List.setIfInBounds_toArray, List.set_cons_zero, List.set_cons_succ]
          refine hold_take (i := 10) (d := 30) (v := .int .i64 ((j / m.n % m.n : Nat) : Int)) (listed' := #[true, true, true, true, true, true, true, true, true, true, true, false, false, false, false, false]) rfl (by kernel_rfl) (by kernel_rfl) (by kernel_rfl) rfl (by rfl) (by kernel_rfl) hS0 ?hrf10 ?rrf10
          case hrf10 =>
            intro w' hSw
            obtain ⟨k0, k1⟩ := hSw
            go_simp
            simp only [R1.out]
          simp only [List.setIfInBounds_toArray, List.set_cons_zero, List.set_cons_succ]
          refine hold_take (i := 11) (d := 31) (v := ?vrf11) (listed' := #[true, true, true, true, true, true, true, true, true, true, true, true, false, false, false, false]) rfl (by kernel_rfl) (by kernel_rfl) (by kernel_rfl) rfl (by rfl) (by kernel_rfl) hS0 ?hrf11 ?rrf11
          case hrf11 =>
            intro w' hSw
            obtain ⟨k0, k1⟩ := hSw
            go_simp
            try with_reducible rfl
          simp only [List.setIfInBounds_toArray, List.set_cons_zero, List.set_cons_succ]
          refine hold_take (i := 12) (d := 32) (v := ?vrf12) (listed' := #[true, true, true, true, true, true, true, true, true, true, true, true, true, false, false, false]) rfl (by kernel_rfl) (by kernel_rfl) (by kernel_rfl) rfl (by rfl) (by kernel_rfl) hS0 ?hrf12 ?rrf12
          case hrf12 =>
            intro w' hSw
            obtain ⟨k0, k1⟩ := hSw
            go_simp
            try with_reducible rfl
          simp only [List.setIfInBounds_toArray, List.set_cons_zero, List.set_cons_succ]
          refine hold_take (i := 13) (d := 33) (v := .int .i64 ((j % m.n : Nat) : Int)) (listed' := #[true, true, true, true, true, true, true, true, true, true, true, true, true, true, false, false]) rfl (by kernel_rfl) (by kernel_rfl) (by kernel_rfl) rfl (by rfl) (by kernel_rfl) hS0 ?hrf13 ?rrf13
          case hrf13 =>
            intro w' hSw
            obtain ⟨k0, k1⟩ := hSw
            go_simp
            simp only [R2.out]
          simp only [List.setIfInBounds_toArray, List.set_cons_zero, List.set_cons_succ]
          refine hold_call (i := 14) (d := 34) (listed' := #[true, true, true, true, true, true, true, true, true, true, true, true, true, true, true, false]) rfl (by kernel_rfl) rfl (by rfl) (by kernel_rfl) ?herf14 (l6Split_any (nc := nc) hLr.out HO.out ha hb hd) ?hcrf14
          case herf14 => go_simp
          rintro e w5 ⟨rfl, b5⟩
          have hSk : (fun w' => w'.cell? ⟨w.heap.size, 0, none⟩ = some (.slice ua m.n l.cap) ∧ w'.cell? ⟨w.heap.size, 1, none⟩ = some (.slice na m.n nc)) w5 := ⟨(hXd.step b5).cell 0 rfl, (hXd.step b5).cell 1 rfl⟩
          have hB5 := bdr.trans (b5.mono bdr.size)
          rw [HTr.out]
          refine ⟨_, rfl, hSk, ?_⟩
          simp only [List.setIfInBounds_toArray, List.set_cons_zero, List.set_cons_succ]
          refine hold_take (i := 15) (d := 35) (v := ?vrf15) (listed' := #[true, true, true, true, true, true, true, true, true, true, true, true, true, true, true, true]) rfl (by kernel_rfl) (by kernel_rfl) (by kernel_rfl) rfl (by rfl) (by kernel_rfl) hSk ?hrf15 ?rrf15
          case hrf15 =>
            intro w' hSw
            obtain ⟨k0, k1⟩ := hSw
            go_simp
            try with_reducible rfl
          simp only [List.setIfInBounds_toArray, List.set_cons_zero, List.set_cons_succ]
          refine hold_done (by kernel_rfl) ?_ _
          go_wp2_with fail
          go_ret
          exact ⟨ret_bool HF.out, hX3.below.trans (hB5.mono hX3.below.size)⟩
      · have hlt' : ¬ (j : Int) < (N3 : Int) := by omega
        have HT : Hid (true = boolV m m.n z) := by show _ = _; rw [← HV.out]; exact ((trip_all hpos).2 fun c hc => hR.out c (by have := HN3.out; omega)).symm
        go_wp2_with fail
        go_ret
        exact ⟨ret_bool HT.out, hX3.below.trans (hD.mono hX3.below.size)⟩
end Go.Proofs.YtnbglbhfclohjaaDoor
