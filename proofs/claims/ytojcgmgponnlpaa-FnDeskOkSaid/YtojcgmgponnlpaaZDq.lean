import Derived.Test.YtojcgmgponnlpaaZDg
import Derived.Test.YtojcgmgponnlpaaZDi
namespace Go.Proofs.Ytojcgmgponnlpaa
open Go.RowKit Go.Deep

def gz (k : Nat) : Bool := decide (k = 0)
def gl (j N : Nat) : Bool := decide ((j : Int) = (N : Int) - 1)
def gq (k j : Nat) : Bool := decide (k = j)
theorem LogAt.head {w : World} {B : Nat} {ua : Option Addr} {l : Lay} {n : Nat} {Z : Nat → Nat → Int} {na : Option Addr} {g o k : Nat} {z : Nat → Int} (h : LogAt w B ua l ⟨n, fun _ => n, Z⟩ na g o k z) (hn : 0 < n) : ua = some ⟨l.b, l.o, none⟩ := (h.mat.top 0 hn).1

/-- Both arguments and the result in their boxes. -/
structure Boxes (w : World) (v1 v2 v3 v4 : Value) (wr : World) : Prop where
  a : TwoAt wr w.heap.size v1 v2
  b : TwoAt wr (w.heap.size + 1) v3 v4
  res : TwoAt wr (w.heap.size + 1 + 1) (.slice none 0 0) (.slice none 0 0)
  old : Below w.heap.size w wr
  size : w.heap.size + 4 ≤ wr.heap.size
theorem Boxes.chg {w wr w' : World} {v1 v2 v3 v4 : Value} (h : Boxes w v1 v2 v3 v4 wr) (hc : Chg (fun j => j = w.heap.size + 1 + 1 + 1 ∨ w.heap.size + 4 ≤ j) wr w') : Boxes w v1 v2 v3 v4 w' :=
  ⟨hc.two h.a (by show ¬ (_ ∨ _); omega), hc.two h.b (by show ¬ (_ ∨ _); omega), hc.two h.res (by show ¬ (_ ∨ _); omega), h.old.trans (hc.below (by have := h.size; omega) fun j hj => by have hj' : j = w.heap.size + 1 + 1 + 1 ∨ w.heap.size + 4 ≤ j := hj; omega), Nat.le_trans h.size hc.size⟩
theorem Boxes.below {w wr w' : World} {v1 v2 v3 v4 : Value} (h : Boxes w v1 v2 v3 v4 wr) (hb : Below wr.heap.size wr w') : Boxes w v1 v2 v3 v4 w' :=
  h.chg (Chg.of_below hb fun j hj hB => absurd hj (by omega))

set_option maxRecDepth 100000 in
set_option maxHeartbeats 4000000 in
theorem glued_any {w : World} {b1 b2 n m : Nat} {u1 t1 u2 t2 : Value} {rv1 rv2 : Nat → Value} {Z1 Z2 : Nat → Nat → Int} {y1 y2 : Nat → Int} (h1 : LogO w b1 u1 t1 n rv1 Z1 y1) (h2 : LogO w b2 u2 t2 m rv2 Z2 y2) (hn : 2 ≤ n) (hm : 2 ≤ m) (hN : n + m ≤ 14) :
    Calls Try.prog 81 #[.agg #[u1, t1], .agg #[u2, t2]] w (MadeL (n + m - 2) w) := by
  obtain ⟨i0, hi, hz0, hz1, hz2⟩ := info_parts infoInt
  have HI := Lib.hid hi
  have HZ0 := Lib.hid hz0
  have HZ1 := Lib.hid hz1
  have HZ2 := Lib.hid hz2
  obtain ⟨i1, hj, hy0, hy1, hy2⟩ := info_parts infoInts
  have HJ := Lib.hid hj
  have HY0 := Lib.hid hy0
  have HY1 := Lib.hid hy1
  have HY2 := Lib.hid hy2
  clear hi hz0 hz1 hz2 hj hy0 hy1 hy2
  have B1 : Hid (∀ r c, r < n → c < n → 0 ≤ Z1 r c ∧ Z1 r c ≤ 2) := h1.out.bit
  have B2 : Hid (∀ r c, r < m → c < m → 0 ≤ Z2 r c ∧ Z2 r c ≤ 2) := h2.out.bit
  have Y1 : Hid (∀ c, c < n → 0 ≤ y1 c ∧ y1 c < (n : Int)) := h1.rng
  have Y2 : Hid (∀ c, c < m → 0 ≤ y2 c ∧ y2 c < (m : Int)) := h2.rng
  obtain ⟨ua, la, ga, ca, rfl, rfl, hA, _, _⟩ := h1.at_
  obtain ⟨ub, lb, gb, cb, rfl, rfl, hB, _, _⟩ := h2.at_
  obtain rfl := hA.head (by omega)
  obtain rfl := hB.head (by omega)
  clear h1 h2
  obtain ⟨N, hNN⟩ : ∃ N, N + 2 = n + m := ⟨n + m - 2, by omega⟩
  have eN : n + m - 2 = N := by omega
  rw [eN]
  have HA := Lib.hid hA
  have HB := Lib.hid hB
  clear hA hB eN
  have x1 := TwoAt.new w (.slice (some ⟨la.b, la.o, none⟩) n la.cap) (.slice (some ⟨ga, 0, none⟩) n ca) 26
  have x2 := TwoAt.new (w.alloc (.cells #[.slice (some ⟨la.b, la.o, none⟩) n la.cap, .slice (some ⟨ga, 0, none⟩) n ca] 26)) (.slice (some ⟨lb.b, lb.o, none⟩) m lb.cap) (.slice (some ⟨gb, 0, none⟩) m cb) 26
  have x3 := TwoAt.new ((w.alloc (.cells #[.slice (some ⟨la.b, la.o, none⟩) n la.cap, .slice (some ⟨ga, 0, none⟩) n ca] 26)).alloc (.cells #[.slice (some ⟨lb.b, lb.o, none⟩) m lb.cap, .slice (some ⟨gb, 0, none⟩) m cb] 26)) (.slice none 0 0) (.slice none 0 0) 26
  have x4 := TwoAt.new (((w.alloc (.cells #[.slice (some ⟨la.b, la.o, none⟩) n la.cap, .slice (some ⟨ga, 0, none⟩) n ca] 26)).alloc (.cells #[.slice (some ⟨lb.b, lb.o, none⟩) m lb.cap, .slice (some ⟨gb, 0, none⟩) m cb] 26)).alloc (.cells #[.slice none 0 0, .slice none 0 0] 26)) (.slice none 0 0) (.slice none 0 0) 26
  simp only [World.size_alloc] at x2 x3 x4
  have k1 := Chg.alloc (fun _ => False) (w.alloc (.cells #[.slice (some ⟨la.b, la.o, none⟩) n la.cap, .slice (some ⟨ga, 0, none⟩) n ca] 26)) (.cells #[.slice (some ⟨lb.b, lb.o, none⟩) m lb.cap, .slice (some ⟨gb, 0, none⟩) m cb] 26)
  have k2 := Chg.alloc (fun _ => False) ((w.alloc (.cells #[.slice (some ⟨la.b, la.o, none⟩) n la.cap, .slice (some ⟨ga, 0, none⟩) n ca] 26)).alloc (.cells #[.slice (some ⟨lb.b, lb.o, none⟩) m lb.cap, .slice (some ⟨gb, 0, none⟩) m cb] 26)) (.cells #[.slice none 0 0, .slice none 0 0] 26)
  have k3 := Chg.alloc (fun _ => False) (((w.alloc (.cells #[.slice (some ⟨la.b, la.o, none⟩) n la.cap, .slice (some ⟨ga, 0, none⟩) n ca] 26)).alloc (.cells #[.slice (some ⟨lb.b, lb.o, none⟩) m lb.cap, .slice (some ⟨gb, 0, none⟩) m cb] 26)).alloc (.cells #[.slice none 0 0, .slice none 0 0] 26)) (.cells #[.slice none 0 0, .slice none 0 0] 26)
  have bw : Below w.heap.size w ((((w.alloc (.cells #[.slice (some ⟨la.b, la.o, none⟩) n la.cap, .slice (some ⟨ga, 0, none⟩) n ca] 26)).alloc (.cells #[.slice (some ⟨lb.b, lb.o, none⟩) m lb.cap, .slice (some ⟨gb, 0, none⟩) m cb] 26)).alloc (.cells #[.slice none 0 0, .slice none 0 0] 26)).alloc (.cells #[.slice none 0 0, .slice none 0 0] 26)) := ((((Below.refl w.heap.size w).alloc (Nat.le_refl _) _).alloc (by simp) _).alloc (by simp; omega) _).alloc (by simp; omega) _
  have X1 := k3.two (k2.two (k1.two x1 (fun h => h)) (fun h => h)) (fun h => h)
  have X2 := k3.two (k2.two x2 (fun h => h)) (fun h => h)
  have X3 := k3.two x3 (fun h => h)
  have hM0 := MakeAt.start (N := N) (base := w.heap.size + 4) (by omega) x4
  have hS0 : w.heap.size + 4 ≤ ((((w.alloc (.cells #[.slice (some ⟨la.b, la.o, none⟩) n la.cap, .slice (some ⟨ga, 0, none⟩) n ca] 26)).alloc (.cells #[.slice (some ⟨lb.b, lb.o, none⟩) m lb.cap, .slice (some ⟨gb, 0, none⟩) m cb] 26)).alloc (.cells #[.slice none 0 0, .slice none 0 0] 26)).alloc (.cells #[.slice none 0 0, .slice none 0 0] 26)).heap.size := by simp
  clear x1 x2 x3 x4 k1 k2 k3
  go_enter Try.func81, Try.ntmps81
  go_wp2_with fail
  go_loopw [8] (fun i wr => ∃ (k : Nat) (u t : Value) (rv : Nat → Value) (Z : Nat → Nat → Int) (y : Nat → Int), k ≤ N ∧ i = .int .i64 k ∧ Boxes w (.slice (some ⟨la.b, la.o, none⟩) n la.cap) (.slice (some ⟨ga, 0, none⟩) n ca) (.slice (some ⟨lb.b, lb.o, none⟩) m lb.cap) (.slice (some ⟨gb, 0, none⟩) m cb) wr ∧ MakeAt wr (w.heap.size + 1 + 1 + 1) (w.heap.size + 4) u t k k N rv Z y) (fun i _ => N - (intOf i).toNat)
  case atStart => exact ⟨0, _, _, _, _, _, Nat.zero_le _, rfl, ⟨X1, X2, X3, bw, hS0⟩, hM0⟩
  case round =>
    clear X1 X2 X3 hM0 bw hS0
    obtain ⟨k, u, t, rv, Z, y, hk, rfl, hX, hM⟩ := hrel
    have hS := hX.size
    by_cases hlt : k < N
    · have hlt' : (k : Int) < (n : Int) + (m : Int) - 2 := by omega
      obtain ⟨wo, rfl⟩ : ∃ wo : World, wo = wr := ⟨_, rfl⟩
      have hrow0 : IntsAt (wo.alloc (.cells #[] 3)) wo.heap.size (.slice (some ⟨wo.heap.size, 0, none⟩) 0 0) 0 (fun _ => 0) := World.ownsRow_lit (base := wo.heap.size) (e := 3) (size := 1) wo #[] 0 (Nat.le_refl _) (Nat.zero_le _) rfl
      have hbr := (Below.refl wo.heap.size wo).alloc (Nat.le_refl _) (.cells #[] 3)
      go_wp2_with fail
      go_loopw [9, 10] (fun t i wi => ∃ (j : Nat) (z : Nat → Int), j ≤ N ∧ i = .int .i64 j ∧ IntsAt wi wo.heap.size t j z ∧ Hid (∀ c, c < j → 0 ≤ z c ∧ z c ≤ 2) ∧ Below wo.heap.size wo wi) (fun _ i _ => N - (intOf i).toNat)
      case atStart => exact ⟨0, fun _ => 0, Nat.zero_le _, rfl, hrow0, fun c hc => absurd hc (Nat.not_lt_zero _), hbr⟩
      case round =>
        clear hrow0 hbr
        obtain ⟨j, z, hj, rfl, hown, hz, hWi⟩ := hrel
        have hws := hWi.size
        by_cases hjt : j < N
        · have hjt' : (j : Int) < (n : Int) + (m : Int) - 2 := by omega
          go_upto_block 4 with fail
          go_cut [11] (fun x wx => (∃ b : Int, x = .int .i64 b ∧ 0 ≤ b ∧ b ≤ 2) ∧ wx = wr)
          case first =>
            have hXa := (hX.below hWi).a.c0
            have hXb := (hX.below hWi).b.c0
            have HAr := Lib.hid (HA.out.step (hX.below hWi).old)
            have HBr := Lib.hid (HB.out.step (hX.below hWi).old)
            clear hX hM hown hz hWi
            have t0 : ((k : Int) == 0) = gz k := by unfold gz; rw [Bool.eq_iff_iff]; simp
            have t1 : decide ((k : Int) = 0) = gz k := by unfold gz; rw [Bool.eq_iff_iff]; simp
            have t2 : ((j : Int) == (n : Int) + (m : Int) - 3) = gl j N := by unfold gl; rw [Bool.eq_iff_iff]; simp; omega
            have t3 : decide ((j : Int) = (n : Int) + (m : Int) - 3) = gl j N := by unfold gl; rw [Bool.eq_iff_iff]; simp; omega
            have t4 : ((k : Int) == (j : Int)) = gq k j := by unfold gq; rw [Bool.eq_iff_iff]; simp; omega
            have t5 : decide ((k : Int) = (j : Int)) = gq k j := by unfold gq; rw [Bool.eq_iff_iff]; simp; omega
            cases E0 : gz k with
            | true =>
              go_wp2_with fail
              go_meet
              exact ⟨⟨1, rfl, by omega, by omega⟩, rfl⟩
            | false =>
              cases E1 : gl j N with
              | true =>
                go_wp2_with fail
                go_meet
                exact ⟨⟨1, rfl, by omega, by omega⟩, rfl⟩
              | false =>
                have hkz : k ≠ 0 := by unfold gz at E0; simpa using E0
                have hjl : (j : Int) ≠ (N : Int) - 1 := by unfold gl at E1; simpa using E1
                have hjN : j + 1 < N := by omega
                clear hkz hjl
                by_cases c1 : k + 1 < n
                · have c1' : (k : Int) < (n : Int) - 1 := by omega
                  have c1n : ¬ (n : Int) - 1 ≤ (k : Int) := by omega
                  by_cases c2 : j + 1 < n
                  · have c2' : (j : Int) < (n : Int) - 1 := by omega
                    obtain ⟨d1, d2⟩ := HAr.out.one (r := k) (c := j) (by omega) (by omega)
                    have hb := B1.out k j (by omega) (by omega)
                    have i1' : (k : Int) < n := by omega
                    have i2' : (j : Int) < n := by omega
                    go_wp2_with fail
                    go_meet
                    exact ⟨⟨_, rfl, hb.1, hb.2⟩, rfl⟩
                  · have c2' : ¬ (j : Int) < (n : Int) - 1 := by omega
                    cases E2 : gq k j with
                    | true =>
                      go_wp2_with fail
                      go_meet
                      exact ⟨⟨1, rfl, by omega, by omega⟩, rfl⟩
                    | false =>
                      go_wp2_with fail
                      go_meet
                      exact ⟨⟨0, rfl, by omega, by omega⟩, rfl⟩
                · have c1' : ¬ (k : Int) < (n : Int) - 1 := by omega
                  have c1n : (n : Int) - 1 ≤ (k : Int) := by omega
                  by_cases c2 : n ≤ j + 1 ∧ k + 1 < N
                  · have c2' : (n : Int) - 1 ≤ (j : Int) := by omega
                    have c3' : (k : Int) < (n : Int) + (m : Int) - 3 := by omega
                    obtain ⟨K, hK⟩ : ∃ K, K + n = k + 2 := ⟨k + 2 - n, by omega⟩
                    obtain ⟨J, hJ⟩ : ∃ J, J + n = j + 2 := ⟨j + 2 - n, by omega⟩
                    obtain ⟨d1, d2⟩ := HBr.out.one (r := K) (c := J) (by omega) (by omega)
                    have hb := B2.out K J (by omega) (by omega)
                    have eK : (k : Int) - (n : Int) + 2 = (K : Int) := by omega
                    have eJ : (j : Int) - (n : Int) + 2 = (J : Int) := by omega
                    have i1' : (K : Int) < m := by omega
                    have i2' : (J : Int) < m := by omega
                    clear hK hJ
                    go_wp2_with fail
                    go_meet
                    exact ⟨⟨_, rfl, hb.1, hb.2⟩, rfl⟩
                  · cases E2 : gq k j with
                    | true =>
                      by_cases c3 : n ≤ j + 1
                      · have c2' : (n : Int) - 1 ≤ (j : Int) := by omega
                        have c3' : ¬ (k : Int) < (n : Int) + (m : Int) - 3 := by omega
                        go_wp2_with fail
                        go_meet
                        exact ⟨⟨1, rfl, by omega, by omega⟩, rfl⟩
                      · have c2' : ¬ (n : Int) - 1 ≤ (j : Int) := by omega
                        go_wp2_with fail
                        go_meet
                        exact ⟨⟨1, rfl, by omega, by omega⟩, rfl⟩
                    | false =>
                      by_cases c3 : n ≤ j + 1
                      · have c2' : (n : Int) - 1 ≤ (j : Int) := by omega
                        have c3' : ¬ (k : Int) < (n : Int) + (m : Int) - 3 := by omega
                        go_wp2_with fail
                        go_meet
                        exact ⟨⟨0, rfl, by omega, by omega⟩, rfl⟩
                      · have c2' : ¬ (n : Int) - 1 ≤ (j : Int) := by omega
                        go_wp2_with fail
                        go_meet
                        exact ⟨⟨0, rfl, by omega, by omega⟩, rfl⟩
          case rest =>
            obtain ⟨⟨b, rfl, hb0, hb2⟩, rfl⟩ := hcut
            go_wp2_with (at_builtin; refine wpList_append_own _ rfl _ _ 24 rfl wo.heap.size 3 i0 (.int .i64 0) 1 8 Try.underlying24 HI.out HZ0.out HZ1.out HZ2.out rfl (by decide) _ _ _ rfl ((Chg.alloc (fun _ => False) _ _).own hown (fun _ _ h => h)) ⟨wc.heap.size, 0, none⟩ 1 1 [.int .i64 b] rfl rfl (cell_one_new _ _ _) ?c2 ?c3 ?c4 ?c5 ?_)
            case c2 => simp [Value.oneCell']
            case c3 => unfold maxLen; omega
            case c4 => omega
            case c5 => first | omega | (simp; omega)
            intro v' w4 hown4 hgrow _
            have HO4 := Lib.hid (IntsAt.step hown4)
            have hW4 : Below wo.heap.size wo w4 := (hWi.alloc hws _).grown hgrow (by first | omega | (simp; omega)) (ownsRow_block hown)
            clear hown4 hgrow hown
            go_wp2_with fail
            go_roundw
            case rel => exact ⟨j + 1, _, by omega, by go_num, HO4.out, fun c hc => by
              show 0 ≤ (if c = j then _ else z c) ∧ (if c = j then _ else z c) ≤ 2
              by_cases e : c = j
              · rw [if_pos e]; omega
              · rw [if_neg e]; exact hz.out c (by omega), hW4⟩
            case measure => simp [intOf]; omega
        · have hjt' : ¬ (j : Int) < (n : Int) + (m : Int) - 2 := by omega
          have hjn : j = N := by omega
          have hrow : IntsAt wr wo.heap.size u9 N z := by subst hjn; exact hown
          have HZZ : Hid (∀ c, c < N → 0 ≤ z c ∧ z c ≤ 2) := fun c hc => hz.out c (by omega)
          have hM1 := Lib.hid (hM.below hWi)
          have hq := hM1.out.box.c0
          obtain ⟨gk, ck, rfl, hgk, hgl, _⟩ := hrow.val (by omega)
          have hbl := Lib.hid (ownsRow_block hM1.out.out.top)
          have hsi := hWi.size
          clear hjn hown hz
          go_wp2_with (at_builtin; refine wpList_append_own _ rfl _ _ 23 rfl (w.heap.size + 4) 24 i1 (.slice none 0 0) 1 24 Try.underlying23 HJ.out HY0.out HY1.out HY2.out rfl (by decide) _ _ _ rfl (hM1.out.out.top.alloc _) ⟨wr.heap.size, 0, none⟩ 1 1 [.slice (some ⟨gk, 0, none⟩) N ck] rfl rfl (cell_one_new _ _ _) ?d2 ?d3 ?d4 ?d5 ?_)
          case d2 => simp [Value.oneCell']
          case d3 => unfold maxLen; omega
          case d4 => omega
          case d5 => first | omega | (simp; omega)
          intro v' w4 hown4 hgrow _
          have HX := hM.row (by omega) hWi hrow HZZ.out hown4 hgrow (by omega)
          have hb4 := (hM1.out.mid (Chg.alloc (fun _ => False) _ _) hgrow hbl.out).2
          obtain ⟨g4, c4, rfl, _⟩ := HX.1.out.topv (by omega)
          have hX5 := hX.chg HX.2
          have hM5 := HX.1
          have r0 := hb4.c0
          have r1 := hb4.f0
          clear hown4 hgrow hb4 HX hM hX hrow hWi hM1 HZZ
          go_upto_block 5 with fail
          clear r0 r1 hq
          generalize hW5 : w4.setCell ⟨w.heap.size + 1 + 1 + 1, 0, none⟩ (.slice (some ⟨g4, 0, none⟩) (k + 1) c4) = w5 at hX5 hM5 ⊢
          clear hW5
          have s0 : ((k : Int) == 0) = gz k := by unfold gz; rw [Bool.eq_iff_iff]; simp
          have s1 : decide ((k : Int) = 0) = gz k := by unfold gz; rw [Bool.eq_iff_iff]; simp
          have s2 : ((k : Int) == (n : Int) + (m : Int) - 3) = gl k N := by unfold gl; rw [Bool.eq_iff_iff]; simp; omega
          have s3 : decide ((k : Int) = (n : Int) + (m : Int) - 3) = gl k N := by unfold gl; rw [Bool.eq_iff_iff]; simp; omega
          have q1 := hM5.box.c1
          cases E0 : gz k with
          | true =>
            go_wp2_with (at_builtin; refine wpList_append_own_at _ rfl _ _ 24 rfl (w.heap.size + 4) 3 i0 (.int .i64 0) 1 8 Try.underlying24 HI.out HZ0.out HZ1.out HZ2.out rfl (by decide) _ _ _ rfl ((Chg.alloc (fun _ => False) _ _).own hM5.ints (fun _ _ h => h)) ⟨w5.heap.size, 0, none⟩ 1 1 [.int .i64 ((n : Int) + (m : Int) - 3)] rfl rfl (cell_one_new _ _ _) ?a2 ?a3 ?a4 ?a5 ?_)
            case a2 => simp [Value.oneCell']
            case a3 => unfold maxLen; omega
            case a4 => omega
            case a5 => have := hX5.size; first | omega | (simp; omega)
            intro v6 w6 hown6 hgrow6 _ hat6
            have HZ := hM5.more (Chg.alloc (fun _ => False) _ _) (x := (n : Int) + (m : Int) - 3) (by omega) hown6 hgrow6 (by rw [World.size_alloc]; exact hat6)
            have hb6 := (hM5.mid (Chg.alloc (fun _ => False) _ _) hgrow6 (ownsRow_block hM5.ints)).2
            obtain ⟨g6, c6, rfl, _⟩ := HZ.1.ints.val (by omega)
            have r0 := hb6.c1
            have r1 := hb6.f1
            have hX7 := hX5.chg HZ.2
            have hM7 := HZ.1
            clear hown6 hgrow6 hat6 HZ hb6 hX5 hM5
            go_wp2_with fail
            go_roundw
            case rel => exact ⟨k + 1, _, _, _, _, _, by omega, by go_num, hX7, hM7⟩
            case measure => simp [intOf]; omega
          | false =>
            have hkz : Hid (k ≠ 0) := by unfold gz at E0; show k ≠ 0; simpa using E0
            cases E1 : gl k N with
            | true =>
              go_wp2_with (at_builtin; refine wpList_append_own_at _ rfl _ _ 24 rfl (w.heap.size + 4) 3 i0 (.int .i64 0) 1 8 Try.underlying24 HI.out HZ0.out HZ1.out HZ2.out rfl (by decide) _ _ _ rfl ((Chg.alloc (fun _ => False) _ _).own hM5.ints (fun _ _ h => h)) ⟨w5.heap.size, 0, none⟩ 1 1 [.int .i64 (0)] rfl rfl (cell_one_new _ _ _) ?a2b ?a3b ?a4b ?a5b ?_)
              case a2b => simp [Value.oneCell']
              case a3b => unfold maxLen; omega
              case a4b => omega
              case a5b => have := hX5.size; first | omega | (simp; omega)
              intro v6 w6 hown6 hgrow6 _ hat6
              have HZ := hM5.more (Chg.alloc (fun _ => False) _ _) (x := 0) (by omega) hown6 hgrow6 (by rw [World.size_alloc]; exact hat6)
              have hb6 := (hM5.mid (Chg.alloc (fun _ => False) _ _) hgrow6 (ownsRow_block hM5.ints)).2
              obtain ⟨g6, c6, rfl, _⟩ := HZ.1.ints.val (by omega)
              have r0 := hb6.c1
              have r1 := hb6.f1
              have hX7 := hX5.chg HZ.2
              have hM7 := HZ.1
              clear hown6 hgrow6 hat6 HZ hb6 hX5 hM5
              go_wp2_with fail
              go_roundw
              case rel => exact ⟨k + 1, _, _, _, _, _, by omega, by go_num, hX7, hM7⟩
              case measure => simp [intOf]; omega
            | false =>
              have hkl : (k : Int) ≠ (N : Int) - 1 := by unfold gl at E1; simpa using E1
              have hkN : k + 1 < N := by omega
              clear hkl
              by_cases c1 : k + 1 < n
              · have c1' : (k : Int) < (n : Int) - 1 := by omega
                have c1n : (k : Int) < n := by omega
                have hqa := hX5.a.c1
                have hqb : w5.cell? ⟨ga, k, none⟩ = some (.int .i64 (y1 k)) := by
                  have h1 := ((HA.out.step hX5.old).row.row k (by omega)).2.2
                  rwa [Nat.zero_add] at h1
                have hy := Y1.out k (by omega)
                have hXr : Hid (0 ≤ y1 k ∧ y1 k < (N : Int)) := ⟨hy.1, by omega⟩
                clear hy
                have hT1 : ∀ o, ((w5.drew).alloc o).ownsRow (w.heap.size + 4) 3 1 t k ((List.range k).map fun c => .int .i64 (y c)) := fun o => ((Chg.drew (fun _ => False) w5).trans (Chg.alloc _ _ o)).own hM5.ints (fun _ _ h => h)
                have hCH : ∀ o, Chg (fun _ => False) w5 ((w5.drew).alloc o) := fun o => (Chg.drew (fun _ => False) w5).trans (Chg.alloc _ _ o)
                have htb := Lib.hid (ownsRow_block hM5.ints)
                have m1 := Lib.hid (show k + 1 ≤ maxLen by unfold maxLen; omega)
                have m2 := Lib.hid (show (k + 1) * 8 ≤ 140737488355328 by omega)
                have m3 := Lib.hid (show ∀ o, w.heap.size + 4 ≤ ((w5.drew).alloc o).heap.size from fun o => by have := hX5.size; simp; omega)
                have m4 := Lib.hid (show ∀ x : Int, ∀ u ∈ [Value.int .i64 x], u.oneCell' = true from fun x => by simp [Value.oneCell'])
                have hsz5 := hX5.size
                have hsz6 : w.heap.size + 1 + 1 + 1 < w5.heap.size := by omega
                have hsz7 : w.heap.size < w5.heap.size := by omega
                have hsz8 : w.heap.size + 1 < w5.heap.size := by omega
                have HX5 := Lib.hid hX5
                have HM5 := Lib.hid hM5
                clear hX5 hM5
                go_wp2_with fail
                go_region_law (refine step_append_own rfl (.tmp 159) (.tmp 165) 24 rfl (w.heap.size + 4) 3 i0 (.int .i64 0) 1 8 Try.underlying24 HI.out HZ0.out HZ1.out HZ2.out rfl (by decide) t k _ (by simp [Act.eval]) (hT1 _) ⟨w5.heap.size, 0, none⟩ 1 1 [.int .i64 (y1 k)] (by simp [Act.eval]) rfl (cell_one_new _ _ _) (m4.out _) m1.out m2.out (m3.out _) ?_; intro v6 w6 hown6 hgrow6 hat6; have HZ := Lib.hid (HM5.out.more (hCH _) hXr.out hown6 hgrow6 hat6); have hb6 := (HM5.out.mid (hCH _) hgrow6 htb.out).2; obtain ⟨g6, c6, rfl, _⟩ := HZ.out.1.ints.val (by omega); have r0 := hb6.c1; have r1 := hb6.f1; clear hown6 hgrow6 hat6 hb6)
                all_goals
                  go_wp2_with fail
                  go_roundw
                  case rel => exact ⟨k + 1, _, _, _, _, _, by omega, by go_num, HX5.out.chg HZ.out.2, HZ.out.1⟩
                  case measure => simp [intOf]; omega
              · have c1' : ¬ (k : Int) < (n : Int) - 1 := by omega
                obtain ⟨K, hK⟩ : ∃ K, K + n = k + 2 := ⟨k + 2 - n, by omega⟩
                have hqa := hX5.b.c1
                have hqb : w5.cell? ⟨gb, K, none⟩ = some (.int .i64 (y2 K)) := by
                  have h1 := ((HB.out.step hX5.old).row.row K (by omega)).2.2
                  rwa [Nat.zero_add] at h1
                have hy := Y2.out K (by omega)
                have hXr : Hid (0 ≤ y2 K + (n : Int) - 2 ∧ y2 K + (n : Int) - 2 < (N : Int)) := ⟨by omega, by omega⟩
                have eK : (k : Int) - (n : Int) + 2 = (K : Int) := by omega
                have i1' : (K : Int) < m := by omega
                have v1 : IntKind.i64.wrap ((k : Int) - (n : Int)) = (k : Int) - (n : Int) := IntWalk.i64_in _ (by omega)
                have v2 : IntKind.i64.wrap (K : Int) = (K : Int) := IntWalk.i64_in _ (by omega)
                have v3 : IntKind.i64.wrap (y2 K + (n : Int)) = y2 K + (n : Int) := IntWalk.i64_in _ (by omega)
                have v4 : IntKind.i64.wrap (y2 K + (n : Int) - 2) = y2 K + (n : Int) - 2 := IntWalk.i64_in _ (by omega)
                clear hK
                have hT1 : ∀ o, ((w5.drew).alloc o).ownsRow (w.heap.size + 4) 3 1 t k ((List.range k).map fun c => .int .i64 (y c)) := fun o => ((Chg.drew (fun _ => False) w5).trans (Chg.alloc _ _ o)).own hM5.ints (fun _ _ h => h)
                have hCH : ∀ o, Chg (fun _ => False) w5 ((w5.drew).alloc o) := fun o => (Chg.drew (fun _ => False) w5).trans (Chg.alloc _ _ o)
                have htb := Lib.hid (ownsRow_block hM5.ints)
                have m1 := Lib.hid (show k + 1 ≤ maxLen by unfold maxLen; omega)
                have m2 := Lib.hid (show (k + 1) * 8 ≤ 140737488355328 by omega)
                have m3 := Lib.hid (show ∀ o, w.heap.size + 4 ≤ ((w5.drew).alloc o).heap.size from fun o => by have := hX5.size; simp; omega)
                have m4 := Lib.hid (show ∀ x : Int, ∀ u ∈ [Value.int .i64 x], u.oneCell' = true from fun x => by simp [Value.oneCell'])
                have hsz5 := hX5.size
                have hsz6 : w.heap.size + 1 + 1 + 1 < w5.heap.size := by omega
                have hsz7 : w.heap.size < w5.heap.size := by omega
                have hsz8 : w.heap.size + 1 < w5.heap.size := by omega
                have HX5 := Lib.hid hX5
                have HM5 := Lib.hid hM5
                clear hX5 hM5
                go_wp2_with fail
                go_region_law? (refine step_append_own rfl (.tmp 114) (.tmp 126) 24 rfl (w.heap.size + 4) 3 i0 (.int .i64 0) 1 8 Try.underlying24 HI.out HZ0.out HZ1.out HZ2.out rfl (by decide) t k _ (by simp [Act.eval]) (hT1 _) ⟨w5.heap.size, 0, none⟩ 1 1 [.int .i64 (y2 K + (n : Int) - 2)] (by simp [Act.eval]) rfl (cell_one_new _ _ _) (m4.out _) m1.out m2.out (m3.out _) ?_; intro v6 w6 hown6 hgrow6 hat6; have HZ := Lib.hid (HM5.out.more (hCH _) hXr.out hown6 hgrow6 hat6); have hb6 := (HM5.out.mid (hCH _) hgrow6 htb.out).2; obtain ⟨g6, c6, rfl, _⟩ := HZ.out.1.ints.val (by omega); have r0 := hb6.c1; have r1 := hb6.f1; clear hown6 hgrow6 hat6 hb6)
                all_goals
                  go_wp2_with fail
                  go_roundw
                  case rel => exact ⟨k + 1, _, _, _, _, _, by omega, by go_num, HX5.out.chg HZ.out.2, HZ.out.1⟩
                  case measure => simp [intOf]; omega
    · have hlt' : ¬ (k : Int) < (n : Int) + (m : Int) - 2 := by omega
      have hkn : k = N := by omega
      have hM1 : MakeAt wr (w.heap.size + 1 + 1 + 1) (w.heap.size + 4) u t N N N rv Z y := by subst hkn; exact hM
      have hL := hM1.made (by omega) (by omega)
      obtain ⟨gu, cu, rfl, _⟩ := hL.out.topv (by omega)
      obtain ⟨gt, ct, rfl, _⟩ := hL.ints.val (by omega)
      have q0 := hM1.box.c0
      have q1 := hM1.box.c1
      have p0 := hX.res.f0
      have p1 := hX.res.f1
      have p2 := hX.res.c0
      have p3 := hX.res.c1
      have hc : Chg (fun j => j = w.heap.size + 1 + 1) wr ((wr.setCell ⟨w.heap.size + 1 + 1, 0, none⟩ (.slice (some ⟨gu, 0, none⟩) N cu)).setCell ⟨w.heap.size + 1 + 1, 1, none⟩ (.slice (some ⟨gt, 0, none⟩) N ct)) := (Chg.set (S := fun j => j = w.heap.size + 1 + 1) rfl _).trans (Chg.set (S := fun j => j = w.heap.size + 1 + 1) rfl _)
      have hall : Hid (MadeL N w (.returned (.agg #[.slice (some ⟨gu, 0, none⟩) N cu, .slice (some ⟨gt, 0, none⟩) N ct])) ((wr.setCell ⟨w.heap.size + 1 + 1, 0, none⟩ (.slice (some ⟨gu, 0, none⟩) N cu)).setCell ⟨w.heap.size + 1 + 1, 1, none⟩ (.slice (some ⟨gt, 0, none⟩) N ct))) :=
        ⟨_, _, rv, Z, y, rfl, (hL.chg hc (fun j hj => by have hj' : j = w.heap.size + 1 + 1 := hj; omega)).base (by omega), hX.old.trans (hc.below (by omega) (fun j hj => by have hj' : j = w.heap.size + 1 + 1 := hj; omega))⟩
      have hfin := (hX.res.set0 (.slice (some ⟨gu, 0, none⟩) N cu)).set1 (.slice (some ⟨gt, 0, none⟩) N ct)
      have t0 := hfin.c0
      have t1 := hfin.c1
      clear hkn hM hM1 hL hc hfin hX
      go_wp2_with fail
      exact bodyPost_ret (v := .agg #[.slice (some ⟨gu, 0, none⟩) N cu, .slice (some ⟨gt, 0, none⟩) N ct]) (by simp [results, Try.results81, go_sem, t0, t1]) rfl hall.out
end Go.Proofs.Ytojcgmgponnlpaa
