import Derived.Test.YtnbglbhfclohjaaDoorZGa
import Derived.Test.YtnbglbhfclohjaaDoorZOa
namespace Go.Proofs.YtnbglbhfclohjaaDoor
open Go.RowKit Go.Deep

/-- A logic of this kind that is one: its opposites as plain numbers, its least answer. -/
structure LD.Is (d : LD) (w : World) (B : Nat) (y : Nat → Nat) (o : Nat) : Prop where
  at_ : d.At w B
  ok : logicB d.m d.k d.z = true
  orth : Ortho d.m d.z y o
  len : d.k = d.m.n
theorem LD.is {d : LD} {w : World} {B : Nat} (h : d.At w B) (hok : d.ok = true) : ∃ y o, d.Is w B y o := by
  have hl := logicB_is hok
  obtain ⟨y, o, hO⟩ := hl.ortho
  exact ⟨y, o, h, hok, hO, hl.pair.len⟩
theorem LD.Is.step {d : LD} {w w' : World} {B o : Nat} {y : Nat → Nat} (h : d.Is w B y o) (hb : Below w.heap.size w w') : d.Is w' B y o := ⟨LogAt.step h.at_ hb, h.ok, h.orth, h.len⟩
theorem LD.Is.sq {d : LD} {w : World} {B o : Nat} {y : Nat → Nat} (h : d.Is w B y o) : SqAt w B d.ua d.l d.m := LogAt.sq h.at_ h.orth.lat.order
theorem LD.Is.hi {d : LD} {w : World} {B o : Nat} {y : Nat → Nat} (h : d.Is w B y o) : 1 ≤ d.m.n ∧ d.m.n ≤ 12 := ⟨h.orth.lat.order.pos, h.orth.lat.order.top⟩
theorem LD.Is.notAt {d : LD} {w : World} {B o : Nat} {y : Nat → Nat} (h : d.Is w B y o) {a : Nat} (ha : a < d.m.n) : d.na = some ⟨d.g, d.o, none⟩ ∧ w.cell? ⟨d.g, d.o + a, none⟩ = some (.int .i64 (y a : Int)) ∧ y a < d.m.n := by
  obtain ⟨h1, _, h3⟩ := h.at_.row.row a (by rw [h.len]; exact ha)
  rw [h.orth.zy a ha] at h3
  exact ⟨h1, h3, h.orth.lt a ha⟩
theorem ThreeAt.only {S : Nat → Prop} {w w' : World} {p : Nat} {u v x : Value} (h : ThreeAt w p u v x) (ho : OnlyIn S w w') (hp : ¬ S p) : ThreeAt w' p u v x :=
  have hb := ho.block p hp
  ⟨(World.cell?_of_block (a := ⟨p, 0, none⟩) hb).trans h.c0, (World.cell?_of_block (a := ⟨p, 1, none⟩) hb).trans h.c1, (World.cell?_of_block (a := ⟨p, 2, none⟩) hb).trans h.c2, (World.frozen?_of_block (a := ⟨p, 0, none⟩) hb).trans h.f0, (World.frozen?_of_block (a := ⟨p, 1, none⟩) hb).trans h.f1, (World.frozen?_of_block (a := ⟨p, 2, none⟩) hb).trans h.f2⟩
end Go.Proofs.YtnbglbhfclohjaaDoor
namespace Go.Proofs.YtnbglbhfclohjaaDoor
open Go.RowKit Go.Deep

set_option maxRecDepth 100000 in
set_option maxHeartbeats 1000000 in
theorem Index_any {B : Nat} {a : Option Addr} {g o n cap : Nat} {z : Nat → Int} {x : Int} {w : World} (hn : n ≤ 9223372036854775807) (h : RowAt w B a g o n z) :
    Calls Tryd.prog 128 #[.slice a n cap, .int .i64 x] w fun e w' => e = .returned (.int .i64 (firstI n (fun c => x == z c))) ∧ w = w' := by
  go_enter Tryd.func128, Tryd.ntmps128
  go_wp2
  go_loop [8] (fun i => ∃ k : Nat, k ≤ n ∧ i = .int .i64 k ∧ Hid (∀ c, c < k → (x == z c) = false)) (fun i => n - (intOf i).toNat)
  case atStart => exact ⟨0, Nat.zero_le _, rfl, fun c hc => absurd hc (Nat.not_lt_zero _)⟩
  case round =>
    obtain ⟨k, hk, rfl, hH⟩ := hrel
    by_cases hlt : k < n
    · obtain ⟨rfl, _, c1⟩ := h.row k hlt
      have hlt' : (k : Int) < n := by omega
      by_cases hx : x = z k
      · have HF : Hid (firstI n (fun c => x == z c) = (k : Int)) := firstI_hit hlt hH.out (by simp [hx])
        clear h hH
        subst hx
        go_wp2_with fail
        go_ret
        exact ⟨ret_int HF.out.symm, rfl⟩
      · have hv : (x == z k) = false := by simp [hx]
        clear h
        go_wp2_with fail
        go_round
        case rel => exact ⟨k + 1, by omega, by go_num, fun c hc => by
          by_cases e : c = k
          · rw [e]; exact hv
          · exact hH.out c (by omega)⟩
        case measure => simp [intOf]; omega
    · have hlt' : ¬ (k : Int) < n := by omega
      have HF : Hid (firstI n (fun c => x == z c) = -1) := firstI_none fun i hi => hH.out i (by omega)
      clear h hH
      go_wp2_with fail
      go_ret
      exact ⟨ret_int HF.out.symm, rfl⟩

set_option maxRecDepth 100000 in
set_option maxHeartbeats 1000000 in
theorem shows_any {w : World} {ua na fa a : Option Addr} {n0 c0 k nc fn fc B g o N cap x : Nat} {V : Nat → Int} (h : RowAt w B a g o N V) (hB : B ≤ w.heap.size) (_ : N ≤ 9223372036854775807) (hx : x < N) :
    Calls Tryd.prog 127 #[.agg #[.slice ua n0 c0, .slice na k nc, .slice fa fn fc, .slice a N cap], .int .i64 (x : Int)] w fun e w' => e = .returned (.bool (decide (0 ≤ V x))) ∧ Below w.heap.size w w' := by
  have hX := BoxN.start w #[.slice ua n0 c0, .slice na k nc, .slice fa fn fc, .slice a N cap] 91
  have q3 := hX.cell 3 rfl
  obtain ⟨rfl, _, c1⟩ := (h.below (hX.below.mono hB)).row x hx
  have hx' : (x : Int) < N := by omega
  clear h
  go_enter Tryd.func127, Tryd.ntmps127
  go_wp2_with fail
  go_ret
  exact ⟨ret_bool (by first | rfl | simp), hX.below⟩

/-- What a view shows of whether one answer is below another one. -/
def viewB (m : Mx) (V : Nat → Int) (x y : Nat) : Bool := decide (0 ≤ V x) && (decide (0 ≤ V y) && leB m (V x).toNat (V y).toNat)
/-- And where it shows the opposite. -/
def viewY (y : Nat → Nat) (V : Nat → Int) (N x : Nat) : Int := firstI N (fun c => ((y (V x).toNat : Nat) : Int) == V c)

set_option maxRecDepth 100000 in
set_option maxHeartbeats 4000000 in
theorem view_below {w : World} {d : LD} {B p g o N cap x y fn fc : Nat} {fa : Option Addr} {yy : Nat → Nat} {V : Nat → Int} (hd : d.Is w B yy p) (hr : RowAt w w.heap.size (some ⟨g, o, none⟩) g o N V) (hN : N ≤ 9223372036854775807) (hV : ∀ c, c < N → V c < (d.m.n : Int)) (hx : x < N) (hy : y < N) :
    Calls Tryd.prog 83 #[.agg #[d.u, d.t, .slice fa fn fc, .slice (some ⟨g, o, none⟩) N cap], .int .i64 (x : Int), .int .i64 (y : Int)] w fun e w' => e = .returned (.bool (viewB d.m V x y)) ∧ Below w.heap.size w w' := by
  obtain ⟨ua, l, m, na, gg, oo, k, nc, zz⟩ := d
  show Calls Tryd.prog 83 #[.agg #[.slice ua m.n l.cap, .slice na k nc, .slice fa fn fc, .slice (some ⟨g, o, none⟩) N cap], .int .i64 (x : Int), .int .i64 (y : Int)] w fun e w' => e = .returned (.bool (viewB m V x y)) ∧ Below w.heap.size w w'
  have hX := BoxN.start w #[.slice ua m.n l.cap, .slice na k nc, .slice fa fn fc, .slice (some ⟨g, o, none⟩) N cap] 91
  have q0 := hX.cell 0 rfl
  have q1 := hX.cell 1 rfl
  have q2 := hX.cell 2 rfl
  have q3 := hX.cell 3 rfl
  have hB0 := hX.below
  have R0 := Lib.hid (hr.below hB0)
  have SQ := Lib.hid ((hd.step hB0).sq)
  have hVx : V x < (m.n : Int) := hV x hx
  have hVy : V y < (m.n : Int) := hV y hy
  have hx' : (x : Int) < N := by omega
  have hy' : (y : Int) < N := by omega
  obtain ⟨_, gl, cx⟩ := R0.out.row x hx
  obtain ⟨_, _, cy⟩ := R0.out.row y hy
  have hs : (w.alloc (.cells #[.slice ua m.n l.cap, .slice na k nc, .slice fa fn fc, .slice (some ⟨g, o, none⟩) N cap] 91)).heap.size = w.heap.size + 1 := by simp
  clear hX hr hd hV
  go_enter Tryd.func83, Tryd.ntmps83
  go_wp2_with fail
  generalize w.alloc (.cells #[.slice ua m.n l.cap, .slice na k nc, .slice fa fn fc, .slice (some ⟨g, o, none⟩) N cap] 91) = w0 at q0 q1 q2 q3 hB0 R0 SQ cx cy hs ⊢
  have K0 : Below w0.heap.size w0 w0.drew := (Below.refl _ _).drew
  have hBw : w.heap.size ≤ w0.heap.size := by omega
  have fb : w.heap.size < w0.heap.size := by omega
  have fx : g < w0.heap.size := by omega
  by_cases sx : 0 ≤ V x
  · by_cases sy : 0 ≤ V y
    · have HB : Hid (viewB m V x y = leB m (V x).toNat (V y).toNat) := by show _ = _; unfold viewB; rw [decide_eq_true sx, decide_eq_true sy]; rfl
      obtain ⟨vx, hvx⟩ : ∃ vx : Nat, vx = (V x).toNat := ⟨_, rfl⟩
      obtain ⟨vy, hvy⟩ : ∃ vy : Nat, vy = (V y).toNat := ⟨_, rfl⟩
      rw [← hvx, ← hvy] at HB
      have lx : vx < m.n := by omega
      have ly : vy < m.n := by omega
      have ex : V x = (vx : Int) := by omega
      have ey : V y = (vy : Int) := by omega
      rw [ex] at cx
      rw [ey] at cy
      clear hvx hvy
      refine region_plain (fuel := 25) (listed := #[false, false, false, false, false, false, false, false, false, false, false, false, false, false, false, false, false, false, false, false, false, false, false, false, false]) (fun W' => Below w0.heap.size w0 W') (by kernel_rfl) (by kernel_rfl) (by kernel_rfl) ?_
      refine hold_take (i := 0) (d := 7) (v := ?vvtt0) (listed' := #[true, false, false, false, false, false, false, false, false, false, false, false, false, false, false, false, false, false, false, false, false, false, false, false, false]) rfl (by kernel_rfl) (by kernel_rfl) (by kernel_rfl) rfl (by rfl) (by kernel_rfl) K0 ?hvtt0 ?rvtt0
      case hvtt0 =>
        intro w' hSw
        have hSb : Below w0.heap.size w0 w' := hSw; have y0 := (hSb.cell (p := ⟨w.heap.size, 0, none⟩) fb).trans q0; have y1 := (hSb.cell (p := ⟨w.heap.size, 1, none⟩) fb).trans q1; have y2 := (hSb.cell (p := ⟨w.heap.size, 2, none⟩) fb).trans q2; have y3 := (hSb.cell (p := ⟨w.heap.size, 3, none⟩) fb).trans q3; have y4 := (hSb.cell (p := ⟨g, o + x, none⟩) fx).trans cx; have y5 := (hSb.cell (p := ⟨g, o + y, none⟩) fx).trans cy
        go_simp
        try with_reducible rfl
      simp only [List.setIfInBounds_toArray, List.set_cons_zero, List.set_cons_succ]
      refine hold_take (i := 1) (d := 8) (v := ?vvtt1) (listed' := #[true, true, false, false, false, false, false, false, false, false, false, false, false, false, false, false, false, false, false, false, false, false, false, false, false]) rfl (by kernel_rfl) (by kernel_rfl) (by kernel_rfl) rfl (by rfl) (by kernel_rfl) K0 ?hvtt1 ?rvtt1
      case hvtt1 =>
        intro w' hSw
        have hSb : Below w0.heap.size w0 w' := hSw; have y0 := (hSb.cell (p := ⟨w.heap.size, 0, none⟩) fb).trans q0; have y1 := (hSb.cell (p := ⟨w.heap.size, 1, none⟩) fb).trans q1; have y2 := (hSb.cell (p := ⟨w.heap.size, 2, none⟩) fb).trans q2; have y3 := (hSb.cell (p := ⟨w.heap.size, 3, none⟩) fb).trans q3; have y4 := (hSb.cell (p := ⟨g, o + x, none⟩) fx).trans cx; have y5 := (hSb.cell (p := ⟨g, o + y, none⟩) fx).trans cy
        go_simp
        try with_reducible rfl
      simp only [List.setIfInBounds_toArray, List.set_cons_zero, List.set_cons_succ]
      refine hold_call (i := 2) (d := 9) (listed' := #[true, true, true, false, false, false, false, false, false, false, false, false, false, false, false, false, false, false, false, false, false, false, false, false, false]) rfl (by kernel_rfl) rfl (by rfl) (by kernel_rfl) ?hevtt2 (shows_any (ua := ua) (na := na) (fa := fa) (n0 := m.n) (c0 := l.cap) (k := k) (nc := nc) (fn := fn) (fc := fc) (cap := cap) (R0.out.below (Below.refl _ _).drew) (by simp; omega) hN hx) ?hcvtt2
      case hevtt2 => go_simp
      rintro e w1 ⟨rfl, b1⟩
      rw [show decide (0 ≤ V x) = true from by simp; omega]
      have K1 := K0.trans (b1.mono (by simp))
      clear b1
      refine ⟨_, rfl, K1, ?_⟩
      simp only [List.setIfInBounds_toArray, List.set_cons_zero, List.set_cons_succ]
      refine hold_take (i := 3) (d := 10) (v := ?vvtt3) (listed' := #[true, true, true, true, false, false, false, false, false, false, false, false, false, false, false, false, false, false, false, false, false, false, false, false, false]) rfl (by kernel_rfl) (by kernel_rfl) (by kernel_rfl) rfl (by rfl) (by kernel_rfl) K1 ?hvtt3 ?rvtt3
      case hvtt3 =>
        intro w' hSw
        have hSb : Below w0.heap.size w0 w' := hSw; have y0 := (hSb.cell (p := ⟨w.heap.size, 0, none⟩) fb).trans q0; have y1 := (hSb.cell (p := ⟨w.heap.size, 1, none⟩) fb).trans q1; have y2 := (hSb.cell (p := ⟨w.heap.size, 2, none⟩) fb).trans q2; have y3 := (hSb.cell (p := ⟨w.heap.size, 3, none⟩) fb).trans q3; have y4 := (hSb.cell (p := ⟨g, o + x, none⟩) fx).trans cx; have y5 := (hSb.cell (p := ⟨g, o + y, none⟩) fx).trans cy
        go_simp
        try with_reducible rfl
      simp only [List.setIfInBounds_toArray, List.set_cons_zero, List.set_cons_succ]
      refine hold_take (i := 4) (d := 11) (v := ?vvtt4) (listed' := #[true, true, true, true, true, false, false, false, false, false, false, false, false, false, false, false, false, false, false, false, false, false, false, false, false]) rfl (by kernel_rfl) (by kernel_rfl) (by kernel_rfl) rfl (by rfl) (by kernel_rfl) K1 ?hvtt4 ?rvtt4
      case hvtt4 =>
        intro w' hSw
        have hSb : Below w0.heap.size w0 w' := hSw; have y0 := (hSb.cell (p := ⟨w.heap.size, 0, none⟩) fb).trans q0; have y1 := (hSb.cell (p := ⟨w.heap.size, 1, none⟩) fb).trans q1; have y2 := (hSb.cell (p := ⟨w.heap.size, 2, none⟩) fb).trans q2; have y3 := (hSb.cell (p := ⟨w.heap.size, 3, none⟩) fb).trans q3; have y4 := (hSb.cell (p := ⟨g, o + x, none⟩) fx).trans cx; have y5 := (hSb.cell (p := ⟨g, o + y, none⟩) fx).trans cy
        go_simp
        try with_reducible rfl
      simp only [List.setIfInBounds_toArray, List.set_cons_zero, List.set_cons_succ]
      refine hold_take (i := 5) (d := 12) (v := ?vvtt5) (listed' := #[true, true, true, true, true, true, false, false, false, false, false, false, false, false, false, false, false, false, false, false, false, false, false, false, false]) rfl (by kernel_rfl) (by kernel_rfl) (by kernel_rfl) rfl (by rfl) (by kernel_rfl) K1 ?hvtt5 ?rvtt5
      case hvtt5 =>
        intro w' hSw
        have hSb : Below w0.heap.size w0 w' := hSw; have y0 := (hSb.cell (p := ⟨w.heap.size, 0, none⟩) fb).trans q0; have y1 := (hSb.cell (p := ⟨w.heap.size, 1, none⟩) fb).trans q1; have y2 := (hSb.cell (p := ⟨w.heap.size, 2, none⟩) fb).trans q2; have y3 := (hSb.cell (p := ⟨w.heap.size, 3, none⟩) fb).trans q3; have y4 := (hSb.cell (p := ⟨g, o + x, none⟩) fx).trans cx; have y5 := (hSb.cell (p := ⟨g, o + y, none⟩) fx).trans cy
        go_simp
        try with_reducible rfl
      simp only [List.setIfInBounds_toArray, List.set_cons_zero, List.set_cons_succ]
      refine hold_call (i := 6) (d := 13) (listed' := #[true, true, true, true, true, true, true, false, false, false, false, false, false, false, false, false, false, false, false, false, false, false, false, false, false]) rfl (by kernel_rfl) rfl (by rfl) (by kernel_rfl) ?hevtt6 (shows_any (ua := ua) (na := na) (fa := fa) (n0 := m.n) (c0 := l.cap) (k := k) (nc := nc) (fn := fn) (fc := fc) (cap := cap) (R0.out.below (K1.mono hBw)) (by have := K1.size; omega) hN hy) ?hcvtt6
      case hevtt6 => go_simp
      rintro e w2 ⟨rfl, b2⟩
      rw [show decide (0 ≤ V y) = true from by simp; omega]
      have K2 := K1.trans (b2.mono K1.size)
      clear b2
      refine ⟨_, rfl, K2, ?_⟩
      simp only [List.setIfInBounds_toArray, List.set_cons_zero, List.set_cons_succ]
      refine hold_take (i := 7) (d := 14) (v := ?vvtt7) (listed' := #[true, true, true, true, true, true, true, true, false, false, false, false, false, false, false, false, false, false, false, false, false, false, false, false, false]) rfl (by kernel_rfl) (by kernel_rfl) (by kernel_rfl) rfl (by rfl) (by kernel_rfl) K2 ?hvtt7 ?rvtt7
      case hvtt7 =>
        intro w' hSw
        have hSb : Below w0.heap.size w0 w' := hSw; have y0 := (hSb.cell (p := ⟨w.heap.size, 0, none⟩) fb).trans q0; have y1 := (hSb.cell (p := ⟨w.heap.size, 1, none⟩) fb).trans q1; have y2 := (hSb.cell (p := ⟨w.heap.size, 2, none⟩) fb).trans q2; have y3 := (hSb.cell (p := ⟨w.heap.size, 3, none⟩) fb).trans q3; have y4 := (hSb.cell (p := ⟨g, o + x, none⟩) fx).trans cx; have y5 := (hSb.cell (p := ⟨g, o + y, none⟩) fx).trans cy
        go_simp
        try with_reducible rfl
      simp only [List.setIfInBounds_toArray, List.set_cons_zero, List.set_cons_succ]
      refine hold_take (i := 8) (d := 15) (v := ?vvtt8) (listed' := #[true, true, true, true, true, true, true, true, true, false, false, false, false, false, false, false, false, false, false, false, false, false, false, false, false]) rfl (by kernel_rfl) (by kernel_rfl) (by kernel_rfl) rfl (by rfl) (by kernel_rfl) K2 ?hvtt8 ?rvtt8
      case hvtt8 =>
        intro w' hSw
        have hSb : Below w0.heap.size w0 w' := hSw; have y0 := (hSb.cell (p := ⟨w.heap.size, 0, none⟩) fb).trans q0; have y1 := (hSb.cell (p := ⟨w.heap.size, 1, none⟩) fb).trans q1; have y2 := (hSb.cell (p := ⟨w.heap.size, 2, none⟩) fb).trans q2; have y3 := (hSb.cell (p := ⟨w.heap.size, 3, none⟩) fb).trans q3; have y4 := (hSb.cell (p := ⟨g, o + x, none⟩) fx).trans cx; have y5 := (hSb.cell (p := ⟨g, o + y, none⟩) fx).trans cy
        go_simp
        try with_reducible rfl
      simp only [List.setIfInBounds_toArray, List.set_cons_zero, List.set_cons_succ]
      refine hold_take (i := 9) (d := 16) (v := ?vvtt9) (listed' := #[true, true, true, true, true, true, true, true, true, true, false, false, false, false, false, false, false, false, false, false, false, false, false, false, false]) rfl (by kernel_rfl) (by kernel_rfl) (by kernel_rfl) rfl (by rfl) (by kernel_rfl) K2 ?hvtt9 ?rvtt9
      case hvtt9 =>
        intro w' hSw
        have hSb : Below w0.heap.size w0 w' := hSw; have y0 := (hSb.cell (p := ⟨w.heap.size, 0, none⟩) fb).trans q0; have y1 := (hSb.cell (p := ⟨w.heap.size, 1, none⟩) fb).trans q1; have y2 := (hSb.cell (p := ⟨w.heap.size, 2, none⟩) fb).trans q2; have y3 := (hSb.cell (p := ⟨w.heap.size, 3, none⟩) fb).trans q3; have y4 := (hSb.cell (p := ⟨g, o + x, none⟩) fx).trans cx; have y5 := (hSb.cell (p := ⟨g, o + y, none⟩) fx).trans cy
        go_simp
        try with_reducible rfl
      simp only [List.setIfInBounds_toArray, List.set_cons_zero, List.set_cons_succ]
      refine hold_take (i := 10) (d := 17) (v := ?vvtt10) (listed' := #[true, true, true, true, true, true, true, true, true, true, true, false, false, false, false, false, false, false, false, false, false, false, false, false, false]) rfl (by kernel_rfl) (by kernel_rfl) (by kernel_rfl) rfl (by rfl) (by kernel_rfl) K2 ?hvtt10 ?rvtt10
      case hvtt10 =>
        intro w' hSw
        have hSb : Below w0.heap.size w0 w' := hSw; have y0 := (hSb.cell (p := ⟨w.heap.size, 0, none⟩) fb).trans q0; have y1 := (hSb.cell (p := ⟨w.heap.size, 1, none⟩) fb).trans q1; have y2 := (hSb.cell (p := ⟨w.heap.size, 2, none⟩) fb).trans q2; have y3 := (hSb.cell (p := ⟨w.heap.size, 3, none⟩) fb).trans q3; have y4 := (hSb.cell (p := ⟨g, o + x, none⟩) fx).trans cx; have y5 := (hSb.cell (p := ⟨g, o + y, none⟩) fx).trans cy
        go_simp
        try with_reducible rfl
      simp only [List.setIfInBounds_toArray, List.set_cons_zero, List.set_cons_succ]
      refine hold_take (i := 11) (d := 18) (v := ?vvtt11) (listed' := #[true, true, true, true, true, true, true, true, true, true, true, true, false, false, false, false, false, false, false, false, false, false, false, false, false]) rfl (by kernel_rfl) (by kernel_rfl) (by kernel_rfl) rfl (by rfl) (by kernel_rfl) K2 ?hvtt11 ?rvtt11
      case hvtt11 =>
        intro w' hSw
        have hSb : Below w0.heap.size w0 w' := hSw; have y0 := (hSb.cell (p := ⟨w.heap.size, 0, none⟩) fb).trans q0; have y1 := (hSb.cell (p := ⟨w.heap.size, 1, none⟩) fb).trans q1; have y2 := (hSb.cell (p := ⟨w.heap.size, 2, none⟩) fb).trans q2; have y3 := (hSb.cell (p := ⟨w.heap.size, 3, none⟩) fb).trans q3; have y4 := (hSb.cell (p := ⟨g, o + x, none⟩) fx).trans cx; have y5 := (hSb.cell (p := ⟨g, o + y, none⟩) fx).trans cy
        go_simp
        try with_reducible rfl
      simp only [List.setIfInBounds_toArray, List.set_cons_zero, List.set_cons_succ]
      refine hold_take (i := 12) (d := 19) (v := ?vvtt12) (listed' := #[true, true, true, true, true, true, true, true, true, true, true, true, true, false, false, false, false, false, false, false, false, false, false, false, false]) rfl (by kernel_rfl) (by kernel_rfl) (by kernel_rfl) rfl (by rfl) (by kernel_rfl) K2 ?hvtt12 ?rvtt12
      case hvtt12 =>
        intro w' hSw
        have hSb : Below w0.heap.size w0 w' := hSw; have y0 := (hSb.cell (p := ⟨w.heap.size, 0, none⟩) fb).trans q0; have y1 := (hSb.cell (p := ⟨w.heap.size, 1, none⟩) fb).trans q1; have y2 := (hSb.cell (p := ⟨w.heap.size, 2, none⟩) fb).trans q2; have y3 := (hSb.cell (p := ⟨w.heap.size, 3, none⟩) fb).trans q3; have y4 := (hSb.cell (p := ⟨g, o + x, none⟩) fx).trans cx; have y5 := (hSb.cell (p := ⟨g, o + y, none⟩) fx).trans cy
        go_simp
        try with_reducible rfl
      simp only [List.setIfInBounds_toArray, List.set_cons_zero, List.set_cons_succ]
      refine hold_take (i := 13) (d := 20) (v := ?vvtt13) (listed' := #[true, true, true, true, true, true, true, true, true, true, true, true, true, true, false, false, false, false, false, false, false, false, false, false, false]) rfl (by kernel_rfl) (by kernel_rfl) (by kernel_rfl) rfl (by rfl) (by kernel_rfl) K2 ?hvtt13 ?rvtt13
      case hvtt13 =>
        intro w' hSw
        have hSb : Below w0.heap.size w0 w' := hSw; have y0 := (hSb.cell (p := ⟨w.heap.size, 0, none⟩) fb).trans q0; have y1 := (hSb.cell (p := ⟨w.heap.size, 1, none⟩) fb).trans q1; have y2 := (hSb.cell (p := ⟨w.heap.size, 2, none⟩) fb).trans q2; have y3 := (hSb.cell (p := ⟨w.heap.size, 3, none⟩) fb).trans q3; have y4 := (hSb.cell (p := ⟨g, o + x, none⟩) fx).trans cx; have y5 := (hSb.cell (p := ⟨g, o + y, none⟩) fx).trans cy
        go_simp
        try with_reducible rfl
      simp only [List.setIfInBounds_toArray, List.set_cons_zero, List.set_cons_succ]
      refine hold_take (i := 14) (d := 21) (v := ?vvtt14) (listed' := #[true, true, true, true, true, true, true, true, true, true, true, true, true, true, true, false, false, false, false, false, false, false, false, false, false]) rfl (by kernel_rfl) (by kernel_rfl) (by kernel_rfl) rfl (by rfl) (by kernel_rfl) K2 ?hvtt14 ?rvtt14
      case hvtt14 =>
        intro w' hSw
        have hSb : Below w0.heap.size w0 w' := hSw; have y0 := (hSb.cell (p := ⟨w.heap.size, 0, none⟩) fb).trans q0; have y1 := (hSb.cell (p := ⟨w.heap.size, 1, none⟩) fb).trans q1; have y2 := (hSb.cell (p := ⟨w.heap.size, 2, none⟩) fb).trans q2; have y3 := (hSb.cell (p := ⟨w.heap.size, 3, none⟩) fb).trans q3; have y4 := (hSb.cell (p := ⟨g, o + x, none⟩) fx).trans cx; have y5 := (hSb.cell (p := ⟨g, o + y, none⟩) fx).trans cy
        go_simp
        try with_reducible rfl
      simp only [List.setIfInBounds_toArray, List.set_cons_zero, List.set_cons_succ]
      refine hold_take (i := 15) (d := 22) (v := ?vvtt15) (listed' := #[true, true, true, true, true, true, true, true, true, true, true, true, true, true, true, true, false, false, false, false, false, false, false, false, false]) rfl (by kernel_rfl) (by kernel_rfl) (by kernel_rfl) rfl (by rfl) (by kernel_rfl) K2 ?hvtt15 ?rvtt15
      case hvtt15 =>
        intro w' hSw
        have hSb : Below w0.heap.size w0 w' := hSw; have y0 := (hSb.cell (p := ⟨w.heap.size, 0, none⟩) fb).trans q0; have y1 := (hSb.cell (p := ⟨w.heap.size, 1, none⟩) fb).trans q1; have y2 := (hSb.cell (p := ⟨w.heap.size, 2, none⟩) fb).trans q2; have y3 := (hSb.cell (p := ⟨w.heap.size, 3, none⟩) fb).trans q3; have y4 := (hSb.cell (p := ⟨g, o + x, none⟩) fx).trans cx; have y5 := (hSb.cell (p := ⟨g, o + y, none⟩) fx).trans cy
        go_simp
        try with_reducible rfl
      simp only [List.setIfInBounds_toArray, List.set_cons_zero, List.set_cons_succ]
      refine hold_take (i := 16) (d := 23) (v := ?vvtt16) (listed' := #[true, true, true, true, true, true, true, true, true, true, true, true, true, true, true, true, true, false, false, false, false, false, false, false, false]) rfl (by kernel_rfl) (by kernel_rfl) (by kernel_rfl) rfl (by rfl) (by kernel_rfl) K2 ?hvtt16 ?rvtt16
      case hvtt16 =>
        intro w' hSw
        have hSb : Below w0.heap.size w0 w' := hSw; have y0 := (hSb.cell (p := ⟨w.heap.size, 0, none⟩) fb).trans q0; have y1 := (hSb.cell (p := ⟨w.heap.size, 1, none⟩) fb).trans q1; have y2 := (hSb.cell (p := ⟨w.heap.size, 2, none⟩) fb).trans q2; have y3 := (hSb.cell (p := ⟨w.heap.size, 3, none⟩) fb).trans q3; have y4 := (hSb.cell (p := ⟨g, o + x, none⟩) fx).trans cx; have y5 := (hSb.cell (p := ⟨g, o + y, none⟩) fx).trans cy
        go_simp
        try with_reducible rfl
      simp only [List.setIfInBounds_toArray, List.set_cons_zero, List.set_cons_succ]
      refine hold_take (i := 17) (d := 24) (v := ?vvtt17) (listed' := #[true, true, true, true, true, true, true, true, true, true, true, true, true, true, true, true, true, true, false, false, false, false, false, false, false]) rfl (by kernel_rfl) (by kernel_rfl) (by kernel_rfl) rfl (by rfl) (by kernel_rfl) K2 ?hvtt17 ?rvtt17
      case hvtt17 =>
        intro w' hSw
        have hSb : Below w0.heap.size w0 w' := hSw; have y0 := (hSb.cell (p := ⟨w.heap.size, 0, none⟩) fb).trans q0; have y1 := (hSb.cell (p := ⟨w.heap.size, 1, none⟩) fb).trans q1; have y2 := (hSb.cell (p := ⟨w.heap.size, 2, none⟩) fb).trans q2; have y3 := (hSb.cell (p := ⟨w.heap.size, 3, none⟩) fb).trans q3; have y4 := (hSb.cell (p := ⟨g, o + x, none⟩) fx).trans cx; have y5 := (hSb.cell (p := ⟨g, o + y, none⟩) fx).trans cy
        go_simp
        try with_reducible rfl
      simp only [List.setIfInBounds_toArray, List.set_cons_zero, List.set_cons_succ]
      refine hold_take (i := 18) (d := 25) (v := ?vvtt18) (listed' := #[true, true, true, true, true, true, true, true, true, true, true, true, true, true, true, true, true, true, true, false, false, false, false, false, false]) rfl (by kernel_rfl) (by kernel_rfl) (by kernel_rfl) rfl (by rfl) (by kernel_rfl) K2 ?hvtt18 ?rvtt18
      case hvtt18 =>
        intro w' hSw
        have hSb : Below w0.heap.size w0 w' := hSw; have y0 := (hSb.cell (p := ⟨w.heap.size, 0, none⟩) fb).trans q0; have y1 := (hSb.cell (p := ⟨w.heap.size, 1, none⟩) fb).trans q1; have y2 := (hSb.cell (p := ⟨w.heap.size, 2, none⟩) fb).trans q2; have y3 := (hSb.cell (p := ⟨w.heap.size, 3, none⟩) fb).trans q3; have y4 := (hSb.cell (p := ⟨g, o + x, none⟩) fx).trans cx; have y5 := (hSb.cell (p := ⟨g, o + y, none⟩) fx).trans cy
        go_simp
        try with_reducible rfl
      simp only [List.setIfInBounds_toArray, List.set_cons_zero, List.set_cons_succ]
      refine hold_take (i := 19) (d := 26) (v := ?vvtt19) (listed' := #[true, true, true, true, true, true, true, true, true, true, true, true, true, true, true, true, true, true, true, true, false, false, false, false, false]) rfl (by kernel_rfl) (by kernel_rfl) (by kernel_rfl) rfl (by rfl) (by kernel_rfl) K2 ?hvtt19 ?rvtt19
      case hvtt19 =>
        intro w' hSw
        have hSb : Below w0.heap.size w0 w' := hSw; have y0 := (hSb.cell (p := ⟨w.heap.size, 0, none⟩) fb).trans q0; have y1 := (hSb.cell (p := ⟨w.heap.size, 1, none⟩) fb).trans q1; have y2 := (hSb.cell (p := ⟨w.heap.size, 2, none⟩) fb).trans q2; have y3 := (hSb.cell (p := ⟨w.heap.size, 3, none⟩) fb).trans q3; have y4 := (hSb.cell (p := ⟨g, o + x, none⟩) fx).trans cx; have y5 := (hSb.cell (p := ⟨g, o + y, none⟩) fx).trans cy
        go_simp
        try with_reducible rfl
      simp only [List.setIfInBounds_toArray, List.set_cons_zero, List.set_cons_succ]
      refine hold_take (i := 20) (d := 27) (v := ?vvtt20) (listed' := #[true, true, true, true, true, true, true, true, true, true, true, true, true, true, true, true, true, true, true, true, true, false, false, false, false]) rfl (by kernel_rfl) (by kernel_rfl) (by kernel_rfl) rfl (by rfl) (by kernel_rfl) K2 ?hvtt20 ?rvtt20
      case hvtt20 =>
        intro w' hSw
        have hSb : Below w0.heap.size w0 w' := hSw; have y0 := (hSb.cell (p := ⟨w.heap.size, 0, none⟩) fb).trans q0; have y1 := (hSb.cell (p := ⟨w.heap.size, 1, none⟩) fb).trans q1; have y2 := (hSb.cell (p := ⟨w.heap.size, 2, none⟩) fb).trans q2; have y3 := (hSb.cell (p := ⟨w.heap.size, 3, none⟩) fb).trans q3; have y4 := (hSb.cell (p := ⟨g, o + x, none⟩) fx).trans cx; have y5 := (hSb.cell (p := ⟨g, o + y, none⟩) fx).trans cy
        go_simp
        try with_reducible rfl
      simp only [List.setIfInBounds_toArray, List.set_cons_zero, List.set_cons_succ]
      refine hold_take (i := 21) (d := 28) (v := ?vvtt21) (listed' := #[true, true, true, true, true, true, true, true, true, true, true, true, true, true, true, true, true, true, true, true, true, true, false, false, false]) rfl (by kernel_rfl) (by kernel_rfl) (by kernel_rfl) rfl (by rfl) (by kernel_rfl) K2 ?hvtt21 ?rvtt21
      case hvtt21 =>
        intro w' hSw
        have hSb : Below w0.heap.size w0 w' := hSw; have y0 := (hSb.cell (p := ⟨w.heap.size, 0, none⟩) fb).trans q0; have y1 := (hSb.cell (p := ⟨w.heap.size, 1, none⟩) fb).trans q1; have y2 := (hSb.cell (p := ⟨w.heap.size, 2, none⟩) fb).trans q2; have y3 := (hSb.cell (p := ⟨w.heap.size, 3, none⟩) fb).trans q3; have y4 := (hSb.cell (p := ⟨g, o + x, none⟩) fx).trans cx; have y5 := (hSb.cell (p := ⟨g, o + y, none⟩) fx).trans cy
        go_simp
        try with_reducible rfl
      simp only [List.setIfInBounds_toArray, List.set_cons_zero, List.set_cons_succ]
      refine hold_call (i := 22) (d := 29) (listed' := #[true, true, true, true, true, true, true, true, true, true, true, true, true, true, true, true, true, true, true, true, true, true, true, false, false]) rfl (by kernel_rfl) rfl (by rfl) (by kernel_rfl) ?hevtt22 (below_sq (SQ.out.step K2) lx ly) ?hcvtt22
      case hevtt22 => go_simp
      rintro e w3 ⟨rfl, b3⟩
      have K3 := K2.trans (b3.mono K2.size)
      clear b3
      refine ⟨_, rfl, K3, ?_⟩
      simp only [List.setIfInBounds_toArray, List.set_cons_zero, List.set_cons_succ]
      refine hold_take (i := 23) (d := 30) (v := ?vvtt23) (listed' := #[true, true, true, true, true, true, true, true, true, true, true, true, true, true, true, true, true, true, true, true, true, true, true, true, false]) rfl (by kernel_rfl) (by kernel_rfl) (by kernel_rfl) rfl (by rfl) (by kernel_rfl) K3 ?hvtt23 ?rvtt23
      case hvtt23 =>
        intro w' hSw
        have hSb : Below w0.heap.size w0 w' := hSw; have y0 := (hSb.cell (p := ⟨w.heap.size, 0, none⟩) fb).trans q0; have y1 := (hSb.cell (p := ⟨w.heap.size, 1, none⟩) fb).trans q1; have y2 := (hSb.cell (p := ⟨w.heap.size, 2, none⟩) fb).trans q2; have y3 := (hSb.cell (p := ⟨w.heap.size, 3, none⟩) fb).trans q3; have y4 := (hSb.cell (p := ⟨g, o + x, none⟩) fx).trans cx; have y5 := (hSb.cell (p := ⟨g, o + y, none⟩) fx).trans cy
        go_simp
        try with_reducible rfl
      simp only [List.setIfInBounds_toArray, List.set_cons_zero, List.set_cons_succ]
      refine hold_take (i := 24) (d := 6) (v := ?vvtt24) (listed' := #[true, true, true, true, true, true, true, true, true, true, true, true, true, true, true, true, true, true, true, true, true, true, true, true, true]) rfl (by kernel_rfl) (by kernel_rfl) (by kernel_rfl) rfl (by rfl) (by kernel_rfl) K3 ?hvtt24 ?rvtt24
      case hvtt24 =>
        intro w' hSw
        have hSb : Below w0.heap.size w0 w' := hSw; have y0 := (hSb.cell (p := ⟨w.heap.size, 0, none⟩) fb).trans q0; have y1 := (hSb.cell (p := ⟨w.heap.size, 1, none⟩) fb).trans q1; have y2 := (hSb.cell (p := ⟨w.heap.size, 2, none⟩) fb).trans q2; have y3 := (hSb.cell (p := ⟨w.heap.size, 3, none⟩) fb).trans q3; have y4 := (hSb.cell (p := ⟨g, o + x, none⟩) fx).trans cx; have y5 := (hSb.cell (p := ⟨g, o + y, none⟩) fx).trans cy
        go_simp
        try with_reducible rfl
      simp only [List.setIfInBounds_toArray, List.set_cons_zero, List.set_cons_succ]
      refine hold_done (by kernel_rfl) ?_ _
      have BF := Lib.hid (hB0.trans (K3.mono hB0.size))
      clear K0 K1 K2 K3 q0 q1 q2 q3
      go_wp2_with fail
      go_ret
      exact ⟨ret_bool (by rw [HB.out]), BF.out⟩
    · have HB : Hid (viewB m V x y = false) := by show _ = _; unfold viewB; rw [decide_eq_true sx, decide_eq_false sy]; rfl
      refine region_plain (fuel := 25) (listed := #[false, false, false, false, false, false, false, false, false, false, false, false, false, false, false, false, false, false, false, false, false, false, false, false, false]) (fun W' => Below w0.heap.size w0 W') (by kernel_rfl) (by kernel_rfl) (by kernel_rfl) ?_
      refine hold_take (i := 0) (d := 7) (v := ?vvtf0) (listed' := #[true, false, false, false, false, false, false, false, false, false, false, false, false, false, false, false, false, false, false, false, false, false, false, false, false]) rfl (by kernel_rfl) (by kernel_rfl) (by kernel_rfl) rfl (by rfl) (by kernel_rfl) K0 ?hvtf0 ?rvtf0
      case hvtf0 =>
        intro w' hSw
        have hSb : Below w0.heap.size w0 w' := hSw; have y0 := (hSb.cell (p := ⟨w.heap.size, 0, none⟩) fb).trans q0; have y1 := (hSb.cell (p := ⟨w.heap.size, 1, none⟩) fb).trans q1; have y2 := (hSb.cell (p := ⟨w.heap.size, 2, none⟩) fb).trans q2; have y3 := (hSb.cell (p := ⟨w.heap.size, 3, none⟩) fb).trans q3
        go_simp
        try with_reducible rfl
      simp only [List.setIfInBounds_toArray, List.set_cons_zero, List.set_cons_succ]
      refine hold_take (i := 1) (d := 8) (v := ?vvtf1) (listed' := #[true, true, false, false, false, false, false, false, false, false, false, false, false, false, false, false, false, false, false, false, false, false, false, false, false]) rfl (by kernel_rfl) (by kernel_rfl) (by kernel_rfl) rfl (by rfl) (by kernel_rfl) K0 ?hvtf1 ?rvtf1
      case hvtf1 =>
        intro w' hSw
        have hSb : Below w0.heap.size w0 w' := hSw; have y0 := (hSb.cell (p := ⟨w.heap.size, 0, none⟩) fb).trans q0; have y1 := (hSb.cell (p := ⟨w.heap.size, 1, none⟩) fb).trans q1; have y2 := (hSb.cell (p := ⟨w.heap.size, 2, none⟩) fb).trans q2; have y3 := (hSb.cell (p := ⟨w.heap.size, 3, none⟩) fb).trans q3
        go_simp
        try with_reducible rfl
      simp only [List.setIfInBounds_toArray, List.set_cons_zero, List.set_cons_succ]
      refine hold_call (i := 2) (d := 9) (listed' := #[true, true, true, false, false, false, false, false, false, false, false, false, false, false, false, false, false, false, false, false, false, false, false, false, false]) rfl (by kernel_rfl) rfl (by rfl) (by kernel_rfl) ?hevtf2 (shows_any (ua := ua) (na := na) (fa := fa) (n0 := m.n) (c0 := l.cap) (k := k) (nc := nc) (fn := fn) (fc := fc) (cap := cap) (R0.out.below (Below.refl _ _).drew) (by simp; omega) hN hx) ?hcvtf2
      case hevtf2 => go_simp
      rintro e w1 ⟨rfl, b1⟩
      rw [show decide (0 ≤ V x) = true from by simp; omega]
      have K1 := K0.trans (b1.mono (by simp))
      clear b1
      refine ⟨_, rfl, K1, ?_⟩
      simp only [List.setIfInBounds_toArray, List.set_cons_zero, List.set_cons_succ]
      refine hold_take (i := 3) (d := 10) (v := ?vvtf3) (listed' := #[true, true, true, true, false, false, false, false, false, false, false, false, false, false, false, false, false, false, false, false, false, false, false, false, false]) rfl (by kernel_rfl) (by kernel_rfl) (by kernel_rfl) rfl (by rfl) (by kernel_rfl) K1 ?hvtf3 ?rvtf3
      case hvtf3 =>
        intro w' hSw
        have hSb : Below w0.heap.size w0 w' := hSw; have y0 := (hSb.cell (p := ⟨w.heap.size, 0, none⟩) fb).trans q0; have y1 := (hSb.cell (p := ⟨w.heap.size, 1, none⟩) fb).trans q1; have y2 := (hSb.cell (p := ⟨w.heap.size, 2, none⟩) fb).trans q2; have y3 := (hSb.cell (p := ⟨w.heap.size, 3, none⟩) fb).trans q3
        go_simp
        try with_reducible rfl
      simp only [List.setIfInBounds_toArray, List.set_cons_zero, List.set_cons_succ]
      refine hold_take (i := 4) (d := 11) (v := ?vvtf4) (listed' := #[true, true, true, true, true, false, false, false, false, false, false, false, false, false, false, false, false, false, false, false, false, false, false, false, false]) rfl (by kernel_rfl) (by kernel_rfl) (by kernel_rfl) rfl (by rfl) (by kernel_rfl) K1 ?hvtf4 ?rvtf4
      case hvtf4 =>
        intro w' hSw
        have hSb : Below w0.heap.size w0 w' := hSw; have y0 := (hSb.cell (p := ⟨w.heap.size, 0, none⟩) fb).trans q0; have y1 := (hSb.cell (p := ⟨w.heap.size, 1, none⟩) fb).trans q1; have y2 := (hSb.cell (p := ⟨w.heap.size, 2, none⟩) fb).trans q2; have y3 := (hSb.cell (p := ⟨w.heap.size, 3, none⟩) fb).trans q3
        go_simp
        try with_reducible rfl
      simp only [List.setIfInBounds_toArray, List.set_cons_zero, List.set_cons_succ]
      refine hold_take (i := 5) (d := 12) (v := ?vvtf5) (listed' := #[true, true, true, true, true, true, false, false, false, false, false, false, false, false, false, false, false, false, false, false, false, false, false, false, false]) rfl (by kernel_rfl) (by kernel_rfl) (by kernel_rfl) rfl (by rfl) (by kernel_rfl) K1 ?hvtf5 ?rvtf5
      case hvtf5 =>
        intro w' hSw
        have hSb : Below w0.heap.size w0 w' := hSw; have y0 := (hSb.cell (p := ⟨w.heap.size, 0, none⟩) fb).trans q0; have y1 := (hSb.cell (p := ⟨w.heap.size, 1, none⟩) fb).trans q1; have y2 := (hSb.cell (p := ⟨w.heap.size, 2, none⟩) fb).trans q2; have y3 := (hSb.cell (p := ⟨w.heap.size, 3, none⟩) fb).trans q3
        go_simp
        try with_reducible rfl
      simp only [List.setIfInBounds_toArray, List.set_cons_zero, List.set_cons_succ]
      refine hold_call (i := 6) (d := 13) (listed' := #[true, true, true, true, true, true, true, false, false, false, false, false, false, false, false, false, false, false, false, false, false, false, false, false, false]) rfl (by kernel_rfl) rfl (by rfl) (by kernel_rfl) ?hevtf6 (shows_any (ua := ua) (na := na) (fa := fa) (n0 := m.n) (c0 := l.cap) (k := k) (nc := nc) (fn := fn) (fc := fc) (cap := cap) (R0.out.below (K1.mono hBw)) (by have := K1.size; omega) hN hy) ?hcvtf6
      case hevtf6 => go_simp
      rintro e w2 ⟨rfl, b2⟩
      rw [show decide (0 ≤ V y) = false from by simp; omega]
      have K2 := K1.trans (b2.mono K1.size)
      clear b2
      refine ⟨_, rfl, K2, ?_⟩
      simp only [List.setIfInBounds_toArray, List.set_cons_zero, List.set_cons_succ]
      refine hold_take (i := 7) (d := 14) (v := ?vvtf7) (listed' := #[true, true, true, true, true, true, true, true, false, false, false, false, false, false, false, false, false, false, false, false, false, false, false, false, false]) rfl (by kernel_rfl) (by kernel_rfl) (by kernel_rfl) rfl (by rfl) (by kernel_rfl) K2 ?hvtf7 ?rvtf7
      case hvtf7 =>
        intro w' hSw
        have hSb : Below w0.heap.size w0 w' := hSw; have y0 := (hSb.cell (p := ⟨w.heap.size, 0, none⟩) fb).trans q0; have y1 := (hSb.cell (p := ⟨w.heap.size, 1, none⟩) fb).trans q1; have y2 := (hSb.cell (p := ⟨w.heap.size, 2, none⟩) fb).trans q2; have y3 := (hSb.cell (p := ⟨w.heap.size, 3, none⟩) fb).trans q3
        go_simp
        try with_reducible rfl
      simp only [List.setIfInBounds_toArray, List.set_cons_zero, List.set_cons_succ]
      refine hold_take (i := 8) (d := 15) (v := ?vvtf8) (listed' := #[true, true, true, true, true, true, true, true, true, false, false, false, false, false, false, false, false, false, false, false, false, false, false, false, false]) rfl (by kernel_rfl) (by kernel_rfl) (by kernel_rfl) rfl (by rfl) (by kernel_rfl) K2 ?hvtf8 ?rvtf8
      case hvtf8 =>
        intro w' hSw
        have hSb : Below w0.heap.size w0 w' := hSw; have y0 := (hSb.cell (p := ⟨w.heap.size, 0, none⟩) fb).trans q0; have y1 := (hSb.cell (p := ⟨w.heap.size, 1, none⟩) fb).trans q1; have y2 := (hSb.cell (p := ⟨w.heap.size, 2, none⟩) fb).trans q2; have y3 := (hSb.cell (p := ⟨w.heap.size, 3, none⟩) fb).trans q3
        go_simp
        try with_reducible rfl
      simp only [List.setIfInBounds_toArray, List.set_cons_zero, List.set_cons_succ]
      refine hold_skip (i := 9) (d := 16) (listed' := #[true, true, true, true, true, true, true, true, true, true, false, false, false, false, false, false, false, false, false, false, false, false, false, false, false]) rfl (by kernel_rfl) (by kernel_rfl) (by kernel_rfl) rfl (by rfl) (by kernel_rfl) K2 ?_
      simp only [List.setIfInBounds_toArray, List.set_cons_zero, List.set_cons_succ]
      refine hold_skip (i := 10) (d := 17) (listed' := #[true, true, true, true, true, true, true, true, true, true, true, false, false, false, false, false, false, false, false, false, false, false, false, false, false]) rfl (by kernel_rfl) (by kernel_rfl) (by kernel_rfl) rfl (by rfl) (by kernel_rfl) K2 ?_
      simp only [List.setIfInBounds_toArray, List.set_cons_zero, List.set_cons_succ]
      refine hold_skip (i := 11) (d := 18) (listed' := #[true, true, true, true, true, true, true, true, true, true, true, true, false, false, false, false, false, false, false, false, false, false, false, false, false]) rfl (by kernel_rfl) (by kernel_rfl) (by kernel_rfl) rfl (by rfl) (by kernel_rfl) K2 ?_
      simp only [List.setIfInBounds_toArray, List.set_cons_zero, List.set_cons_succ]
      refine hold_skip (i := 12) (d := 19) (listed' := #[true, true, true, true, true, true, true, true, true, true, true, true, true, false, false, false, false, false, false, false, false, false, false, false, false]) rfl (by kernel_rfl) (by kernel_rfl) (by kernel_rfl) rfl (by rfl) (by kernel_rfl) K2 ?_
      simp only [List.setIfInBounds_toArray, List.set_cons_zero, List.set_cons_succ]
      refine hold_skip (i := 13) (d := 20) (listed' := #[true, true, true, true, true, true, true, true, true, true, true, true, true, true, false, false, false, false, false, false, false, false, false, false, false]) rfl (by kernel_rfl) (by kernel_rfl) (by kernel_rfl) rfl (by rfl) (by kernel_rfl) K2 ?_
      simp only [List.setIfInBounds_toArray, List.set_cons_zero, List.set_cons_succ]
      refine hold_skip (i := 14) (d := 21) (listed' := #[true, true, true, true, true, true, true, true, true, true, true, true, true, true, true, false, false, false, false, false, false, false, false, false, false]) rfl (by kernel_rfl) (by kernel_rfl) (by kernel_rfl) rfl (by rfl) (by kernel_rfl) K2 ?_
      simp only [List.setIfInBounds_toArray, List.set_cons_zero, List.set_cons_succ]
      refine hold_skip (i := 15) (d := 22) (listed' := #[true, true, true, true, true, true, true, true, true, true, true, true, true, true, true, true, false, false, false, false, false, false, false, false, false]) rfl (by kernel_rfl) (by kernel_rfl) (by kernel_rfl) rfl (by rfl) (by kernel_rfl) K2 ?_
      simp only [List.setIfInBounds_toArray, List.set_cons_zero, List.set_cons_succ]
      refine hold_skip (i := 16) (d := 23) (listed' := #[true, true, true, true, true, true, true, true, true, true, true, true, true, true, true, true, true, false, false, false, false, false, false, false, false]) rfl (by kernel_rfl) (by kernel_rfl) (by kernel_rfl) rfl (by rfl) (by kernel_rfl) K2 ?_
      simp only [List.setIfInBounds_toArray, List.set_cons_zero, List.set_cons_succ]
      refine hold_skip (i := 17) (d := 24) (listed' := #[true, true, true, true, true, true, true, true, true, true, true, true, true, true, true, true, true, true, false, false, false, false, false, false, false]) rfl (by kernel_rfl) (by kernel_rfl) (by kernel_rfl) rfl (by rfl) (by kernel_rfl) K2 ?_
      simp only [List.setIfInBounds_toArray, List.set_cons_zero, List.set_cons_succ]
      refine hold_skip (i := 18) (d := 25) (listed' := #[true, true, true, true, true, true, true, true, true, true, true, true, true, true, true, true, true, true, true, false, false, false, false, false, false]) rfl (by kernel_rfl) (by kernel_rfl) (by kernel_rfl) rfl (by rfl) (by kernel_rfl) K2 ?_
      simp only [List.setIfInBounds_toArray, List.set_cons_zero, List.set_cons_succ]
      refine hold_skip (i := 19) (d := 26) (listed' := #[true, true, true, true, true, true, true, true, true, true, true, true, true, true, true, true, true, true, true, true, false, false, false, false, false]) rfl (by kernel_rfl) (by kernel_rfl) (by kernel_rfl) rfl (by rfl) (by kernel_rfl) K2 ?_
      simp only [List.setIfInBounds_toArray, List.set_cons_zero, List.set_cons_succ]
      refine hold_skip (i := 20) (d := 27) (listed' := #[true, true, true, true, true, true, true, true, true, true, true, true, true, true, true, true, true, true, true, true, true, false, false, false, false]) rfl (by kernel_rfl) (by kernel_rfl) (by kernel_rfl) rfl (by rfl) (by kernel_rfl) K2 ?_
      simp only [List.setIfInBounds_toArray, List.set_cons_zero, List.set_cons_succ]
      refine hold_skip (i := 21) (d := 28) (listed' := #[true, true, true, true, true, true, true, true, true, true, true, true, true, true, true, true, true, true, true, true, true, true, false, false, false]) rfl (by kernel_rfl) (by kernel_rfl) (by kernel_rfl) rfl (by rfl) (by kernel_rfl) K2 ?_
      simp only [List.setIfInBounds_toArray, List.set_cons_zero, List.set_cons_succ]
      refine hold_skip (i := 22) (d := 29) (listed' := #[true, true, true, true, true, true, true, true, true, true, true, true, true, true, true, true, true, true, true, true, true, true, true, false, false]) rfl (by kernel_rfl) (by kernel_rfl) (by kernel_rfl) rfl (by rfl) (by kernel_rfl) K2 ?_
      simp only [List.setIfInBounds_toArray, List.set_cons_zero, List.set_cons_succ]
      refine hold_take (i := 23) (d := 30) (v := ?vvtf23) (listed' := #[true, true, true, true, true, true, true, true, true, true, true, true, true, true, true, true, true, true, true, true, true, true, true, true, false]) rfl (by kernel_rfl) (by kernel_rfl) (by kernel_rfl) rfl (by rfl) (by kernel_rfl) K2 ?hvtf23 ?rvtf23
      case hvtf23 =>
        intro w' hSw
        have hSb : Below w0.heap.size w0 w' := hSw; have y0 := (hSb.cell (p := ⟨w.heap.size, 0, none⟩) fb).trans q0; have y1 := (hSb.cell (p := ⟨w.heap.size, 1, none⟩) fb).trans q1; have y2 := (hSb.cell (p := ⟨w.heap.size, 2, none⟩) fb).trans q2; have y3 := (hSb.cell (p := ⟨w.heap.size, 3, none⟩) fb).trans q3
        go_simp
        try with_reducible rfl
      simp only [List.setIfInBounds_toArray, List.set_cons_zero, List.set_cons_succ]
      refine hold_take (i := 24) (d := 6) (v := ?vvtf24) (listed' := #[true, true, true, true, true, true, true, true, true, true, true, true, true, true, true, true, true, true, true, true, true, true, true, true, true]) rfl (by kernel_rfl) (by kernel_rfl) (by kernel_rfl) rfl (by rfl) (by kernel_rfl) K2 ?hvtf24 ?rvtf24
      case hvtf24 =>
        intro w' hSw
        have hSb : Below w0.heap.size w0 w' := hSw; have y0 := (hSb.cell (p := ⟨w.heap.size, 0, none⟩) fb).trans q0; have y1 := (hSb.cell (p := ⟨w.heap.size, 1, none⟩) fb).trans q1; have y2 := (hSb.cell (p := ⟨w.heap.size, 2, none⟩) fb).trans q2; have y3 := (hSb.cell (p := ⟨w.heap.size, 3, none⟩) fb).trans q3
        go_simp
        try with_reducible rfl
      simp only [List.setIfInBounds_toArray, List.set_cons_zero, List.set_cons_succ]
      refine hold_done (by kernel_rfl) ?_ _
      have BF := Lib.hid (hB0.trans (K2.mono hB0.size))
      clear K0 K1 K2 q0 q1 q2 q3
      go_wp2_with fail
      go_ret
      exact ⟨ret_bool (by rw [HB.out]), BF.out⟩
  · have HB : Hid (viewB m V x y = false) := by show _ = _; unfold viewB; rw [decide_eq_false sx]; rfl
    refine region_plain (fuel := 25) (listed := #[false, false, false, false, false, false, false, false, false, false, false, false, false, false, false, false, false, false, false, false, false, false, false, false, false]) (fun W' => Below w0.heap.size w0 W') (by kernel_rfl) (by kernel_rfl) (by kernel_rfl) ?_
    refine hold_take (i := 0) (d := 7) (v := ?vvff0) (listed' := #[true, false, false, false, false, false, false, false, false, false, false, false, false, false, false, false, false, false, false, false, false, false, false, false, false]) rfl (by kernel_rfl) (by kernel_rfl) (by kernel_rfl) rfl (by rfl) (by kernel_rfl) K0 ?hvff0 ?rvff0
    case hvff0 =>
      intro w' hSw
      have hSb : Below w0.heap.size w0 w' := hSw; have y0 := (hSb.cell (p := ⟨w.heap.size, 0, none⟩) fb).trans q0; have y1 := (hSb.cell (p := ⟨w.heap.size, 1, none⟩) fb).trans q1; have y2 := (hSb.cell (p := ⟨w.heap.size, 2, none⟩) fb).trans q2; have y3 := (hSb.cell (p := ⟨w.heap.size, 3, none⟩) fb).trans q3
      go_simp
      try with_reducible rfl
    simp only [List.setIfInBounds_toArray, List.set_cons_zero, List.set_cons_succ]
    refine hold_take (i := 1) (d := 8) (v := ?vvff1) (listed' := #[true, true, false, false, false, false, false, false, false, false, false, false, false, false, false, false, false, false, false, false, false, false, false, false, false]) rfl (by kernel_rfl) (by kernel_rfl) (by kernel_rfl) rfl (by rfl) (by kernel_rfl) K0 ?hvff1 ?rvff1
    case hvff1 =>
      intro w' hSw
      have hSb : Below w0.heap.size w0 w' := hSw; have y0 := (hSb.cell (p := ⟨w.heap.size, 0, none⟩) fb).trans q0; have y1 := (hSb.cell (p := ⟨w.heap.size, 1, none⟩) fb).trans q1; have y2 := (hSb.cell (p := ⟨w.heap.size, 2, none⟩) fb).trans q2; have y3 := (hSb.cell (p := ⟨w.heap.size, 3, none⟩) fb).trans q3
      go_simp
      try with_reducible rfl
    simp only [List.setIfInBounds_toArray, List.set_cons_zero, List.set_cons_succ]
    refine hold_call (i := 2) (d := 9) (listed' := #[true, true, true, false, false, false, false, false, false, false, false, false, false, false, false, false, false, false, false, false, false, false, false, false, false]) rfl (by kernel_rfl) rfl (by rfl) (by kernel_rfl) ?hevff2 (shows_any (ua := ua) (na := na) (fa := fa) (n0 := m.n) (c0 := l.cap) (k := k) (nc := nc) (fn := fn) (fc := fc) (cap := cap) (R0.out.below (Below.refl _ _).drew) (by simp; omega) hN hx) ?hcvff2
    case hevff2 => go_simp
    rintro e w1 ⟨rfl, b1⟩
    rw [show decide (0 ≤ V x) = false from by simp; omega]
    have K1 := K0.trans (b1.mono (by simp))
    clear b1
    refine ⟨_, rfl, K1, ?_⟩
    simp only [List.setIfInBounds_toArray, List.set_cons_zero, List.set_cons_succ]
    refine hold_take (i := 3) (d := 10) (v := ?vvff3) (listed' := #[true, true, true, true, false, false, false, false, false, false, false, false, false, false, false, false, false, false, false, false, false, false, false, false, false]) rfl (by kernel_rfl) (by kernel_rfl) (by kernel_rfl) rfl (by rfl) (by kernel_rfl) K1 ?hvff3 ?rvff3
    case hvff3 =>
      intro w' hSw
      have hSb : Below w0.heap.size w0 w' := hSw; have y0 := (hSb.cell (p := ⟨w.heap.size, 0, none⟩) fb).trans q0; have y1 := (hSb.cell (p := ⟨w.heap.size, 1, none⟩) fb).trans q1; have y2 := (hSb.cell (p := ⟨w.heap.size, 2, none⟩) fb).trans q2; have y3 := (hSb.cell (p := ⟨w.heap.size, 3, none⟩) fb).trans q3
      go_simp
      try with_reducible rfl
    simp only [List.setIfInBounds_toArray, List.set_cons_zero, List.set_cons_succ]
    refine hold_skip (i := 4) (d := 11) (listed' := #[true, true, true, true, true, false, false, false, false, false, false, false, false, false, false, false, false, false, false, false, false, false, false, false, false]) rfl (by kernel_rfl) (by kernel_rfl) (by kernel_rfl) rfl (by rfl) (by kernel_rfl) K1 ?_
    simp only [List.setIfInBounds_toArray, List.set_cons_zero, List.set_cons_succ]
    refine hold_skip (i := 5) (d := 12) (listed' := #[true, true, true, true, true, true, false, false, false, false, false, false, false, false, false, false, false, false, false, false, false, false, false, false, false]) rfl (by kernel_rfl) (by kernel_rfl) (by kernel_rfl) rfl (by rfl) (by kernel_rfl) K1 ?_
    simp only [List.setIfInBounds_toArray, List.set_cons_zero, List.set_cons_succ]
    refine hold_skip (i := 6) (d := 13) (listed' := #[true, true, true, true, true, true, true, false, false, false, false, false, false, false, false, false, false, false, false, false, false, false, false, false, false]) rfl (by kernel_rfl) (by kernel_rfl) (by kernel_rfl) rfl (by rfl) (by kernel_rfl) K1 ?_
    simp only [List.setIfInBounds_toArray, List.set_cons_zero, List.set_cons_succ]
    refine hold_take (i := 7) (d := 14) (v := ?vvff7) (listed' := #[true, true, true, true, true, true, true, true, false, false, false, false, false, false, false, false, false, false, false, false, false, false, false, false, false]) rfl (by kernel_rfl) (by kernel_rfl) (by kernel_rfl) rfl (by rfl) (by kernel_rfl) K1 ?hvff7 ?rvff7
    case hvff7 =>
      intro w' hSw
      have hSb : Below w0.heap.size w0 w' := hSw; have y0 := (hSb.cell (p := ⟨w.heap.size, 0, none⟩) fb).trans q0; have y1 := (hSb.cell (p := ⟨w.heap.size, 1, none⟩) fb).trans q1; have y2 := (hSb.cell (p := ⟨w.heap.size, 2, none⟩) fb).trans q2; have y3 := (hSb.cell (p := ⟨w.heap.size, 3, none⟩) fb).trans q3
      go_simp
      try with_reducible rfl
    simp only [List.setIfInBounds_toArray, List.set_cons_zero, List.set_cons_succ]
    refine hold_take (i := 8) (d := 15) (v := ?vvff8) (listed' := #[true, true, true, true, true, true, true, true, true, false, false, false, false, false, false, false, false, false, false, false, false, false, false, false, false]) rfl (by kernel_rfl) (by kernel_rfl) (by kernel_rfl) rfl (by rfl) (by kernel_rfl) K1 ?hvff8 ?rvff8
    case hvff8 =>
      intro w' hSw
      have hSb : Below w0.heap.size w0 w' := hSw; have y0 := (hSb.cell (p := ⟨w.heap.size, 0, none⟩) fb).trans q0; have y1 := (hSb.cell (p := ⟨w.heap.size, 1, none⟩) fb).trans q1; have y2 := (hSb.cell (p := ⟨w.heap.size, 2, none⟩) fb).trans q2; have y3 := (hSb.cell (p := ⟨w.heap.size, 3, none⟩) fb).trans q3
      go_simp
      try with_reducible rfl
    simp only [List.setIfInBounds_toArray, List.set_cons_zero, List.set_cons_succ]
    refine hold_skip (i := 9) (d := 16) (listed' := #[true, true, true, true, true, true, true, true, true, true, false, false, false, false, false, false, false, false, false, false, false, false, false, false, false]) rfl (by kernel_rfl) (by kernel_rfl) (by kernel_rfl) rfl (by rfl) (by kernel_rfl) K1 ?_
    simp only [List.setIfInBounds_toArray, List.set_cons_zero, List.set_cons_succ]
    refine hold_skip (i := 10) (d := 17) (listed' := #[true, true, true, true, true, true, true, true, true, true, true, false, false, false, false, false, false, false, false, false, false, false, false, false, false]) rfl (by kernel_rfl) (by kernel_rfl) (by kernel_rfl) rfl (by rfl) (by kernel_rfl) K1 ?_
    simp only [List.setIfInBounds_toArray, List.set_cons_zero, List.set_cons_succ]
    refine hold_skip (i := 11) (d := 18) (listed' := #[true, true, true, true, true, true, true, true, true, true, true, true, false, false, false, false, false, false, false, false, false, false, false, false, false]) rfl (by kernel_rfl) (by kernel_rfl) (by kernel_rfl) rfl (by rfl) (by kernel_rfl) K1 ?_
    simp only [List.setIfInBounds_toArray, List.set_cons_zero, List.set_cons_succ]
    refine hold_skip (i := 12) (d := 19) (listed' := #[true, true, true, true, true, true, true, true, true, true, true, true, true, false, false, false, false, false, false, false, false, false, false, false, false]) rfl (by kernel_rfl) (by kernel_rfl) (by kernel_rfl) rfl (by rfl) (by kernel_rfl) K1 ?_
    simp only [List.setIfInBounds_toArray, List.set_cons_zero, List.set_cons_succ]
    refine hold_skip (i := 13) (d := 20) (listed' := #[true, true, true, true, true, true, true, true, true, true, true, true, true, true, false, false, false, false, false, false, false, false, false, false, false]) rfl (by kernel_rfl) (by kernel_rfl) (by kernel_rfl) rfl (by rfl) (by kernel_rfl) K1 ?_
    simp only [List.setIfInBounds_toArray, List.set_cons_zero, List.set_cons_succ]
    refine hold_skip (i := 14) (d := 21) (listed' := #[true, true, true, true, true, true, true, true, true, true, true, true, true, true, true, false, false, false, false, false, false, false, false, false, false]) rfl (by kernel_rfl) (by kernel_rfl) (by kernel_rfl) rfl (by rfl) (by kernel_rfl) K1 ?_
    simp only [List.setIfInBounds_toArray, List.set_cons_zero, List.set_cons_succ]
    refine hold_skip (i := 15) (d := 22) (listed' := #[true, true, true, true, true, true, true, true, true, true, true, true, true, true, true, true, false, false, false, false, false, false, false, false, false]) rfl (by kernel_rfl) (by kernel_rfl) (by kernel_rfl) rfl (by rfl) (by kernel_rfl) K1 ?_
    simp only [List.setIfInBounds_toArray, List.set_cons_zero, List.set_cons_succ]
    refine hold_skip (i := 16) (d := 23) (listed' := #[true, true, true, true, true, true, true, true, true, true, true, true, true, true, true, true, true, false, false, false, false, false, false, false, false]) rfl (by kernel_rfl) (by kernel_rfl) (by kernel_rfl) rfl (by rfl) (by kernel_rfl) K1 ?_
    simp only [List.setIfInBounds_toArray, List.set_cons_zero, List.set_cons_succ]
    refine hold_skip (i := 17) (d := 24) (listed' := #[true, true, true, true, true, true, true, true, true, true, true, true, true, true, true, true, true, true, false, false, false, false, false, false, false]) rfl (by kernel_rfl) (by kernel_rfl) (by kernel_rfl) rfl (by rfl) (by kernel_rfl) K1 ?_
    simp only [List.setIfInBounds_toArray, List.set_cons_zero, List.set_cons_succ]
    refine hold_skip (i := 18) (d := 25) (listed' := #[true, true, true, true, true, true, true, true, true, true, true, true, true, true, true, true, true, true, true, false, false, false, false, false, false]) rfl (by kernel_rfl) (by kernel_rfl) (by kernel_rfl) rfl (by rfl) (by kernel_rfl) K1 ?_
    simp only [List.setIfInBounds_toArray, List.set_cons_zero, List.set_cons_succ]
    refine hold_skip (i := 19) (d := 26) (listed' := #[true, true, true, true, true, true, true, true, true, true, true, true, true, true, true, true, true, true, true, true, false, false, false, false, false]) rfl (by kernel_rfl) (by kernel_rfl) (by kernel_rfl) rfl (by rfl) (by kernel_rfl) K1 ?_
    simp only [List.setIfInBounds_toArray, List.set_cons_zero, List.set_cons_succ]
    refine hold_skip (i := 20) (d := 27) (listed' := #[true, true, true, true, true, true, true, true, true, true, true, true, true, true, true, true, true, true, true, true, true, false, false, false, false]) rfl (by kernel_rfl) (by kernel_rfl) (by kernel_rfl) rfl (by rfl) (by kernel_rfl) K1 ?_
    simp only [List.setIfInBounds_toArray, List.set_cons_zero, List.set_cons_succ]
    refine hold_skip (i := 21) (d := 28) (listed' := #[true, true, true, true, true, true, true, true, true, true, true, true, true, true, true, true, true, true, true, true, true, true, false, false, false]) rfl (by kernel_rfl) (by kernel_rfl) (by kernel_rfl) rfl (by rfl) (by kernel_rfl) K1 ?_
    simp only [List.setIfInBounds_toArray, List.set_cons_zero, List.set_cons_succ]
    refine hold_skip (i := 22) (d := 29) (listed' := #[true, true, true, true, true, true, true, true, true, true, true, true, true, true, true, true, true, true, true, true, true, true, true, false, false]) rfl (by kernel_rfl) (by kernel_rfl) (by kernel_rfl) rfl (by rfl) (by kernel_rfl) K1 ?_
    simp only [List.setIfInBounds_toArray, List.set_cons_zero, List.set_cons_succ]
    refine hold_take (i := 23) (d := 30) (v := ?vvff23) (listed' := #[true, true, true, true, true, true, true, true, true, true, true, true, true, true, true, true, true, true, true, true, true, true, true, true, false]) rfl (by kernel_rfl) (by kernel_rfl) (by kernel_rfl) rfl (by rfl) (by kernel_rfl) K1 ?hvff23 ?rvff23
    case hvff23 =>
      intro w' hSw
      have hSb : Below w0.heap.size w0 w' := hSw; have y0 := (hSb.cell (p := ⟨w.heap.size, 0, none⟩) fb).trans q0; have y1 := (hSb.cell (p := ⟨w.heap.size, 1, none⟩) fb).trans q1; have y2 := (hSb.cell (p := ⟨w.heap.size, 2, none⟩) fb).trans q2; have y3 := (hSb.cell (p := ⟨w.heap.size, 3, none⟩) fb).trans q3
      go_simp
      try with_reducible rfl
    simp only [List.setIfInBounds_toArray, List.set_cons_zero, List.set_cons_succ]
    refine hold_take (i := 24) (d := 6) (v := ?vvff24) (listed' := #[true, true, true, true, true, true, true, true, true, true, true, true, true, true, true, true, true, true, true, true, true, true, true, true, true]) rfl (by kernel_rfl) (by kernel_rfl) (by kernel_rfl) rfl (by rfl) (by kernel_rfl) K1 ?hvff24 ?rvff24
    case hvff24 =>
      intro w' hSw
      have hSb : Below w0.heap.size w0 w' := hSw; have y0 := (hSb.cell (p := ⟨w.heap.size, 0, none⟩) fb).trans q0; have y1 := (hSb.cell (p := ⟨w.heap.size, 1, none⟩) fb).trans q1; have y2 := (hSb.cell (p := ⟨w.heap.size, 2, none⟩) fb).trans q2; have y3 := (hSb.cell (p := ⟨w.heap.size, 3, none⟩) fb).trans q3
      go_simp
      try with_reducible rfl
    simp only [List.setIfInBounds_toArray, List.set_cons_zero, List.set_cons_succ]
    refine hold_done (by kernel_rfl) ?_ _
    have BF := Lib.hid (hB0.trans (K1.mono hB0.size))
    clear K0 K1 q0 q1 q2 q3
    go_wp2_with fail
    go_ret
    exact ⟨ret_bool (by rw [HB.out]), BF.out⟩

set_option maxRecDepth 100000 in
set_option maxHeartbeats 4000000 in
theorem view_opp {w : World} {d : LD} {B p g o N cap x fn fc : Nat} {fa : Option Addr} {yy : Nat → Nat} {V : Nat → Int} (hd : d.Is w B yy p) (hr : RowAt w w.heap.size (some ⟨g, o, none⟩) g o N V) (hN : N ≤ 9223372036854775807) (hV : V x < (d.m.n : Int)) (hx : x < N) (h0 : 0 ≤ V x) :
    Calls Tryd.prog 84 #[.agg #[d.u, d.t, .slice fa fn fc, .slice (some ⟨g, o, none⟩) N cap], .int .i64 (x : Int)] w fun e w' => e = .returned (.int .i64 (viewY yy V N x)) ∧ Below w.heap.size w w' := by
  obtain ⟨ua, l, m, na, gg, oo, k, nc, zz⟩ := d
  show Calls Tryd.prog 84 #[.agg #[.slice ua m.n l.cap, .slice na k nc, .slice fa fn fc, .slice (some ⟨g, o, none⟩) N cap], .int .i64 (x : Int)] w fun e w' => e = .returned (.int .i64 (viewY yy V N x)) ∧ Below w.heap.size w w'
  have hX := BoxN.start w #[.slice ua m.n l.cap, .slice na k nc, .slice fa fn fc, .slice (some ⟨g, o, none⟩) N cap] 91
  have q0 := hX.cell 0 rfl
  have q1 := hX.cell 1 rfl
  have q2 := hX.cell 2 rfl
  have q3 := hX.cell 3 rfl
  have hB0 := hX.below
  have R0 := Lib.hid (hr.below hB0)
  have hVx : V x < (m.n : Int) := hV
  have hx' : (x : Int) < N := by omega
  obtain ⟨_, gl, cx⟩ := R0.out.row x hx
  obtain ⟨vx, hvx⟩ : ∃ vx : Nat, vx = (V x).toNat := ⟨_, rfl⟩
  have lx : vx < m.n := by omega
  have ex : V x = (vx : Int) := by omega
  rw [ex] at cx
  have HD := Lib.hid (hd.step hB0)
  have ek : k = m.n := hd.len
  subst ek
  have hn12 : m.n ≤ 12 := hd.hi.2
  obtain ⟨hna, cn, ln⟩ := HD.out.notAt lx
  replace hna : na = some ⟨gg, oo, none⟩ := hna
  replace cn : (w.alloc (.cells #[.slice ua m.n l.cap, .slice na m.n nc, .slice fa fn fc, .slice (some ⟨g, o, none⟩) N cap] 91)).cell? ⟨gg, oo + vx, none⟩ = some (.int .i64 (yy vx : Int)) := cn
  subst hna
  have hvx' : (vx : Int) < (m.n : Int) := by omega
  have HY : Hid (viewY yy V N x = firstI N (fun c => ((yy vx : Nat) : Int) == V c)) := by show _ = _; unfold viewY; rw [← hvx]
  have fn0 := World.block_lt_of_cell? _ _ cn
  have hs : (w.alloc (.cells #[.slice ua m.n l.cap, .slice (some ⟨gg, oo, none⟩) m.n nc, .slice fa fn fc, .slice (some ⟨g, o, none⟩) N cap] 91)).heap.size = w.heap.size + 1 := by simp
  clear hX hr hd hV HD ln hvx
  go_enter Tryd.func84, Tryd.ntmps84
  go_wp2_with fail
  generalize w.alloc (.cells #[.slice ua m.n l.cap, .slice (some ⟨gg, oo, none⟩) m.n nc, .slice fa fn fc, .slice (some ⟨g, o, none⟩) N cap] 91) = w0 at q0 q1 q2 q3 hB0 R0 cx cn hs fn0 ⊢
  have K0 : Below w0.heap.size w0 w0.drew := (Below.refl _ _).drew
  have fb : w.heap.size < w0.heap.size := by omega
  have fx : g < w0.heap.size := by omega
  refine region_plain (fuel := 14) (listed := #[false, false, false, false, false, false, false, false, false, false, false, false, false, false]) (fun W' => Below w0.heap.size w0 W') (by kernel_rfl) (by kernel_rfl) (by kernel_rfl) ?_
  refine hold_take (i := 0) (d := 5) (v := ?vo0) (listed' := #[true, false, false, false, false, false, false, false, false, false, false, false, false, false]) rfl (by kernel_rfl) (by kernel_rfl) (by kernel_rfl) rfl (by rfl) (by kernel_rfl) K0 ?ho0 ?ro0
  case ho0 =>
    intro w' hSw
    have hSb : Below w0.heap.size w0 w' := hSw; have y0 := (hSb.cell (p := ⟨w.heap.size, 0, none⟩) fb).trans q0; have y1 := (hSb.cell (p := ⟨w.heap.size, 1, none⟩) fb).trans q1; have y2 := (hSb.cell (p := ⟨w.heap.size, 2, none⟩) fb).trans q2; have y3 := (hSb.cell (p := ⟨w.heap.size, 3, none⟩) fb).trans q3; have y4 := (hSb.cell (p := ⟨g, o + x, none⟩) fx).trans cx; have y5 := (hSb.cell (p := ⟨gg, oo + vx, none⟩) fn0).trans cn
    go_simp
    try with_reducible rfl
  simp only [List.setIfInBounds_toArray, List.set_cons_zero, List.set_cons_succ]
  refine hold_take (i := 1) (d := 6) (v := ?vo1) (listed' := #[true, true, false, false, false, false, false, false, false, false, false, false, false, false]) rfl (by kernel_rfl) (by kernel_rfl) (by kernel_rfl) rfl (by rfl) (by kernel_rfl) K0 ?ho1 ?ro1
  case ho1 =>
    intro w' hSw
    have hSb : Below w0.heap.size w0 w' := hSw; have y0 := (hSb.cell (p := ⟨w.heap.size, 0, none⟩) fb).trans q0; have y1 := (hSb.cell (p := ⟨w.heap.size, 1, none⟩) fb).trans q1; have y2 := (hSb.cell (p := ⟨w.heap.size, 2, none⟩) fb).trans q2; have y3 := (hSb.cell (p := ⟨w.heap.size, 3, none⟩) fb).trans q3; have y4 := (hSb.cell (p := ⟨g, o + x, none⟩) fx).trans cx; have y5 := (hSb.cell (p := ⟨gg, oo + vx, none⟩) fn0).trans cn
    go_simp
    try with_reducible rfl
  simp only [List.setIfInBounds_toArray, List.set_cons_zero, List.set_cons_succ]
  refine hold_take (i := 2) (d := 7) (v := ?vo2) (listed' := #[true, true, true, false, false, false, false, false, false, false, false, false, false, false]) rfl (by kernel_rfl) (by kernel_rfl) (by kernel_rfl) rfl (by rfl) (by kernel_rfl) K0 ?ho2 ?ro2
  case ho2 =>
    intro w' hSw
    have hSb : Below w0.heap.size w0 w' := hSw; have y0 := (hSb.cell (p := ⟨w.heap.size, 0, none⟩) fb).trans q0; have y1 := (hSb.cell (p := ⟨w.heap.size, 1, none⟩) fb).trans q1; have y2 := (hSb.cell (p := ⟨w.heap.size, 2, none⟩) fb).trans q2; have y3 := (hSb.cell (p := ⟨w.heap.size, 3, none⟩) fb).trans q3; have y4 := (hSb.cell (p := ⟨g, o + x, none⟩) fx).trans cx; have y5 := (hSb.cell (p := ⟨gg, oo + vx, none⟩) fn0).trans cn
    go_simp
    try with_reducible rfl
  simp only [List.setIfInBounds_toArray, List.set_cons_zero, List.set_cons_succ]
  refine hold_take (i := 3) (d := 8) (v := ?vo3) (listed' := #[true, true, true, true, false, false, false, false, false, false, false, false, false, false]) rfl (by kernel_rfl) (by kernel_rfl) (by kernel_rfl) rfl (by rfl) (by kernel_rfl) K0 ?ho3 ?ro3
  case ho3 =>
    intro w' hSw
    have hSb : Below w0.heap.size w0 w' := hSw; have y0 := (hSb.cell (p := ⟨w.heap.size, 0, none⟩) fb).trans q0; have y1 := (hSb.cell (p := ⟨w.heap.size, 1, none⟩) fb).trans q1; have y2 := (hSb.cell (p := ⟨w.heap.size, 2, none⟩) fb).trans q2; have y3 := (hSb.cell (p := ⟨w.heap.size, 3, none⟩) fb).trans q3; have y4 := (hSb.cell (p := ⟨g, o + x, none⟩) fx).trans cx; have y5 := (hSb.cell (p := ⟨gg, oo + vx, none⟩) fn0).trans cn
    go_simp
    try with_reducible rfl
  simp only [List.setIfInBounds_toArray, List.set_cons_zero, List.set_cons_succ]
  refine hold_take (i := 4) (d := 9) (v := ?vo4) (listed' := #[true, true, true, true, true, false, false, false, false, false, false, false, false, false]) rfl (by kernel_rfl) (by kernel_rfl) (by kernel_rfl) rfl (by rfl) (by kernel_rfl) K0 ?ho4 ?ro4
  case ho4 =>
    intro w' hSw
    have hSb : Below w0.heap.size w0 w' := hSw; have y0 := (hSb.cell (p := ⟨w.heap.size, 0, none⟩) fb).trans q0; have y1 := (hSb.cell (p := ⟨w.heap.size, 1, none⟩) fb).trans q1; have y2 := (hSb.cell (p := ⟨w.heap.size, 2, none⟩) fb).trans q2; have y3 := (hSb.cell (p := ⟨w.heap.size, 3, none⟩) fb).trans q3; have y4 := (hSb.cell (p := ⟨g, o + x, none⟩) fx).trans cx; have y5 := (hSb.cell (p := ⟨gg, oo + vx, none⟩) fn0).trans cn
    go_simp
    try with_reducible rfl
  simp only [List.setIfInBounds_toArray, List.set_cons_zero, List.set_cons_succ]
  refine hold_take (i := 5) (d := 10) (v := ?vo5) (listed' := #[true, true, true, true, true, true, false, false, false, false, false, false, false, false]) rfl (by kernel_rfl) (by kernel_rfl) (by kernel_rfl) rfl (by rfl) (by kernel_rfl) K0 ?ho5 ?ro5
  case ho5 =>
    intro w' hSw
    have hSb : Below w0.heap.size w0 w' := hSw; have y0 := (hSb.cell (p := ⟨w.heap.size, 0, none⟩) fb).trans q0; have y1 := (hSb.cell (p := ⟨w.heap.size, 1, none⟩) fb).trans q1; have y2 := (hSb.cell (p := ⟨w.heap.size, 2, none⟩) fb).trans q2; have y3 := (hSb.cell (p := ⟨w.heap.size, 3, none⟩) fb).trans q3; have y4 := (hSb.cell (p := ⟨g, o + x, none⟩) fx).trans cx; have y5 := (hSb.cell (p := ⟨gg, oo + vx, none⟩) fn0).trans cn
    go_simp
    try with_reducible rfl
  simp only [List.setIfInBounds_toArray, List.set_cons_zero, List.set_cons_succ]
  refine hold_take (i := 6) (d := 11) (v := ?vo6) (listed' := #[true, true, true, true, true, true, true, false, false, false, false, false, false, false]) rfl (by kernel_rfl) (by kernel_rfl) (by kernel_rfl) rfl (by rfl) (by kernel_rfl) K0 ?ho6 ?ro6
  case ho6 =>
    intro w' hSw
    have hSb : Below w0.heap.size w0 w' := hSw; have y0 := (hSb.cell (p := ⟨w.heap.size, 0, none⟩) fb).trans q0; have y1 := (hSb.cell (p := ⟨w.heap.size, 1, none⟩) fb).trans q1; have y2 := (hSb.cell (p := ⟨w.heap.size, 2, none⟩) fb).trans q2; have y3 := (hSb.cell (p := ⟨w.heap.size, 3, none⟩) fb).trans q3; have y4 := (hSb.cell (p := ⟨g, o + x, none⟩) fx).trans cx; have y5 := (hSb.cell (p := ⟨gg, oo + vx, none⟩) fn0).trans cn
    go_simp
    try with_reducible rfl
  simp only [List.setIfInBounds_toArray, List.set_cons_zero, List.set_cons_succ]
  refine hold_take (i := 7) (d := 12) (v := ?vo7) (listed' := #[true, true, true, true, true, true, true, true, false, false, false, false, false, false]) rfl (by kernel_rfl) (by kernel_rfl) (by kernel_rfl) rfl (by rfl) (by kernel_rfl) K0 ?ho7 ?ro7
  case ho7 =>
    intro w' hSw
    have hSb : Below w0.heap.size w0 w' := hSw; have y0 := (hSb.cell (p := ⟨w.heap.size, 0, none⟩) fb).trans q0; have y1 := (hSb.cell (p := ⟨w.heap.size, 1, none⟩) fb).trans q1; have y2 := (hSb.cell (p := ⟨w.heap.size, 2, none⟩) fb).trans q2; have y3 := (hSb.cell (p := ⟨w.heap.size, 3, none⟩) fb).trans q3; have y4 := (hSb.cell (p := ⟨g, o + x, none⟩) fx).trans cx; have y5 := (hSb.cell (p := ⟨gg, oo + vx, none⟩) fn0).trans cn
    go_simp
    try with_reducible rfl
  simp only [List.setIfInBounds_toArray, List.set_cons_zero, List.set_cons_succ]
  refine hold_take (i := 8) (d := 13) (v := ?vo8) (listed' := #[true, true, true, true, true, true, true, true, true, false, false, false, false, false]) rfl (by kernel_rfl) (by kernel_rfl) (by kernel_rfl) rfl (by rfl) (by kernel_rfl) K0 ?ho8 ?ro8
  case ho8 =>
    intro w' hSw
    have hSb : Below w0.heap.size w0 w' := hSw; have y0 := (hSb.cell (p := ⟨w.heap.size, 0, none⟩) fb).trans q0; have y1 := (hSb.cell (p := ⟨w.heap.size, 1, none⟩) fb).trans q1; have y2 := (hSb.cell (p := ⟨w.heap.size, 2, none⟩) fb).trans q2; have y3 := (hSb.cell (p := ⟨w.heap.size, 3, none⟩) fb).trans q3; have y4 := (hSb.cell (p := ⟨g, o + x, none⟩) fx).trans cx; have y5 := (hSb.cell (p := ⟨gg, oo + vx, none⟩) fn0).trans cn
    go_simp
    try with_reducible rfl
  simp only [List.setIfInBounds_toArray, List.set_cons_zero, List.set_cons_succ]
  refine hold_take (i := 9) (d := 14) (v := ?vo9) (listed' := #[true, true, true, true, true, true, true, true, true, true, false, false, false, false]) rfl (by kernel_rfl) (by kernel_rfl) (by kernel_rfl) rfl (by rfl) (by kernel_rfl) K0 ?ho9 ?ro9
  case ho9 =>
    intro w' hSw
    have hSb : Below w0.heap.size w0 w' := hSw; have y0 := (hSb.cell (p := ⟨w.heap.size, 0, none⟩) fb).trans q0; have y1 := (hSb.cell (p := ⟨w.heap.size, 1, none⟩) fb).trans q1; have y2 := (hSb.cell (p := ⟨w.heap.size, 2, none⟩) fb).trans q2; have y3 := (hSb.cell (p := ⟨w.heap.size, 3, none⟩) fb).trans q3; have y4 := (hSb.cell (p := ⟨g, o + x, none⟩) fx).trans cx; have y5 := (hSb.cell (p := ⟨gg, oo + vx, none⟩) fn0).trans cn
    go_simp
    try with_reducible rfl
  simp only [List.setIfInBounds_toArray, List.set_cons_zero, List.set_cons_succ]
  refine hold_take (i := 10) (d := 15) (v := ?vo10) (listed' := #[true, true, true, true, true, true, true, true, true, true, true, false, false, false]) rfl (by kernel_rfl) (by kernel_rfl) (by kernel_rfl) rfl (by rfl) (by kernel_rfl) K0 ?ho10 ?ro10
  case ho10 =>
    intro w' hSw
    have hSb : Below w0.heap.size w0 w' := hSw; have y0 := (hSb.cell (p := ⟨w.heap.size, 0, none⟩) fb).trans q0; have y1 := (hSb.cell (p := ⟨w.heap.size, 1, none⟩) fb).trans q1; have y2 := (hSb.cell (p := ⟨w.heap.size, 2, none⟩) fb).trans q2; have y3 := (hSb.cell (p := ⟨w.heap.size, 3, none⟩) fb).trans q3; have y4 := (hSb.cell (p := ⟨g, o + x, none⟩) fx).trans cx; have y5 := (hSb.cell (p := ⟨gg, oo + vx, none⟩) fn0).trans cn
    go_simp
    try with_reducible rfl
  simp only [List.setIfInBounds_toArray, List.set_cons_zero, List.set_cons_succ]
  refine hold_take (i := 11) (d := 16) (v := ?vo11) (listed' := #[true, true, true, true, true, true, true, true, true, true, true, true, false, false]) rfl (by kernel_rfl) (by kernel_rfl) (by kernel_rfl) rfl (by rfl) (by kernel_rfl) K0 ?ho11 ?ro11
  case ho11 =>
    intro w' hSw
    have hSb : Below w0.heap.size w0 w' := hSw; have y0 := (hSb.cell (p := ⟨w.heap.size, 0, none⟩) fb).trans q0; have y1 := (hSb.cell (p := ⟨w.heap.size, 1, none⟩) fb).trans q1; have y2 := (hSb.cell (p := ⟨w.heap.size, 2, none⟩) fb).trans q2; have y3 := (hSb.cell (p := ⟨w.heap.size, 3, none⟩) fb).trans q3; have y4 := (hSb.cell (p := ⟨g, o + x, none⟩) fx).trans cx; have y5 := (hSb.cell (p := ⟨gg, oo + vx, none⟩) fn0).trans cn
    go_simp
    try with_reducible rfl
  simp only [List.setIfInBounds_toArray, List.set_cons_zero, List.set_cons_succ]
  refine hold_call (i := 12) (d := 17) (listed' := #[true, true, true, true, true, true, true, true, true, true, true, true, true, false]) rfl (by kernel_rfl) rfl (by rfl) (by kernel_rfl) ?heo12 (Index_any (cap := cap) (x := ((yy vx : Nat) : Int)) hN (R0.out.below (Below.refl _ _).drew)) ?hco12
  case heo12 => go_simp
  rintro e w1 ⟨rfl, rfl⟩
  refine ⟨_, rfl, K0, ?_⟩
  simp only [List.setIfInBounds_toArray, List.set_cons_zero, List.set_cons_succ]
  refine hold_take (i := 13) (d := 4) (v := ?vo13) (listed' := #[true, true, true, true, true, true, true, true, true, true, true, true, true, true]) rfl (by kernel_rfl) (by kernel_rfl) (by kernel_rfl) rfl (by rfl) (by kernel_rfl) K0 ?ho13 ?ro13
  case ho13 =>
    intro w' hSw
    have hSb : Below w0.heap.size w0 w' := hSw; have y0 := (hSb.cell (p := ⟨w.heap.size, 0, none⟩) fb).trans q0; have y1 := (hSb.cell (p := ⟨w.heap.size, 1, none⟩) fb).trans q1; have y2 := (hSb.cell (p := ⟨w.heap.size, 2, none⟩) fb).trans q2; have y3 := (hSb.cell (p := ⟨w.heap.size, 3, none⟩) fb).trans q3; have y4 := (hSb.cell (p := ⟨g, o + x, none⟩) fx).trans cx; have y5 := (hSb.cell (p := ⟨gg, oo + vx, none⟩) fn0).trans cn
    go_simp
    try with_reducible rfl
  simp only [List.setIfInBounds_toArray, List.set_cons_zero, List.set_cons_succ]
  refine hold_done (by kernel_rfl) ?_ _
  have BF := Lib.hid (hB0.trans (K0.mono hB0.size))
  clear K0 q0 q1 q2 q3
  go_wp2_with fail
  go_ret
  exact ⟨ret_int HY.out.symm, BF.out⟩
end Go.Proofs.YtnbglbhfclohjaaDoor
