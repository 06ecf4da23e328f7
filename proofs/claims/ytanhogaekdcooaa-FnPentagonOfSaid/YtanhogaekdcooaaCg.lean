/- The walk of the program's PentagonOf. -/
import Derived.Test.YtanhogaekdcooaaCf
namespace Go.Proofs.Ytanhogaekdcooaa
open Go.RowKit Go.Deep Go.Shelf

attribute [local go_sem] Oper.semAt_some

/-- A region that draws its order, in a fenced walk out of a round. -/
theorem region_fence {n id fuel : Nat} {P : Program} {ops : Array Oper} {listed : Array Bool} {Q : Exit → Act → World → Prop} {a : Act} {w : World} (S : World → Prop) (hm : P.follows .mixedOrders = true) (hf : ops.size = fuel) (hl : Array.replicate ops.size false = listed)
    (h : wpAnyH P .any ops (fun e a w => e = .normal ∧ Q .normal a w) S fuel listed a w.drew) : (Code.region id ops true).wpIn Fence.wide n P Q a w := wpIn_wide.2 (region_plain S hm hf hl h)

/-- Where the iterator stopped, all lower pairs had come. -/
def LexP {n : Nat} (pre : List (Fin n × Fin n)) : Prop := ∀ p x, pre = p ++ [x] → ∀ a b : Fin n, (a.val < x.1.val ∨ (a.val = x.1.val ∧ b.val < x.2.val)) → (a, b) ∈ p
set_option maxRecDepth 100000 in
set_option maxHeartbeats 2000000 in
theorem pairs_stopsL (d n : Nat) (hd : 1 ≤ d) (hn : n ≤ 12) (Bx cap : Nat) (sa : Option Addr) (w : World) (hB : Bx < w.heap.size) (hc : w.cell? ⟨Bx, 0, none⟩ = some (.slice sa n cap)) :
    SeqStopsK Fence.wide d Try.prog 87 #[.pointer (some ⟨Bx, 0, none⟩)] (encP (n := n)) (KeptB Bx) (fun ys => ∀ a b : Fin n, (a, b) ∈ ys) LexP (n * n) w := fun l J Jx W hW _ _ hY h0 => by
  have hcW : W.cell? ⟨Bx, 0, none⟩ = some (.slice sa n cap) := (hW.cell (p := ⟨Bx, 0, none⟩) (by show Bx < _; omega)).trans hc
  have hY := Lib.hid hY
  clear hc hW
  refine callsIn_of_wp Try.func87 rfl trivial ?_ rfl
  simp only [Try.ntmps87, List.size_toArray, List.length_cons, List.length_nil, Nat.reduceAdd, Nat.reduceSub, Array.replicate_succ, Array.replicate_zero, List.push_toArray, List.append_toArray, List.nil_append, List.cons_append]
  gi_wp2
  gi_loopw [8] (fun i wr => ∃ (k : Nat) (pre : List (Fin n × Fin n)), k ≤ n ∧ i = .int .i64 k ∧ J pre wr ∧ Hid (KeptB Bx W wr) ∧ Hid (pre.length = k * n) ∧ Hid (∀ a b : Fin n, a.val < k → (a, b) ∈ pre))
    (fun i _ => n - (intOf i).toNat)
  case atStart => exact ⟨0, [], Nat.zero_le _, rfl, h0, rfl, by show _ = _; simp, fun a b h => absurd h (Nat.not_lt_zero _)⟩
  case round =>
    obtain ⟨k, pre, hk, rfl, hJ, hX, hlen, hin⟩ := hrel
    have hcx : wr.cell? ⟨Bx, 0, none⟩ = some (.slice sa n cap) := (World.cell?_of_block (show wr.heap[Bx]? = W.heap[Bx]? from hX.out)).trans hcW
    clear hcW
    by_cases hlt : k < n
    · have hlt' : (k : Int) < n := by omega
      gi_wp2
      gi_loopw [14] (fun i wi => ∃ (j : Nat) (pre' : List (Fin n × Fin n)), j ≤ n ∧ i = .int .i64 j ∧ J pre' wi ∧ Hid (KeptB Bx wr wi) ∧ Hid (pre'.length = k * n + j) ∧ Hid (∀ a b : Fin n, a.val < k ∨ (a.val = k ∧ b.val < j) → (a, b) ∈ pre'))
        (fun i _ => n - (intOf i).toNat)
      case atStart => exact ⟨0, pre, Nat.zero_le _, rfl, hJ, rfl, by show _ = _; rw [hlen.out]; simp, fun a b h => by
        rcases h with h | ⟨_, h⟩
        · exact hin.out a b h
        · exact absurd h (Nat.not_lt_zero _)⟩
      case round =>
        obtain ⟨j, pre', hj, rfl, hJ', hX', hlen', hin'⟩ := hrel
        have hcx' : wr.cell? ⟨Bx, 0, none⟩ = some (.slice sa n cap) := (World.cell?_of_block (show wr.heap[Bx]? = _ from hX'.out)).trans hcx
        clear hcx
        by_cases hjt : j < n
        · have hjt' : (j : Int) < n := by omega
          obtain ⟨fn, tmps, assign, body, hy, hR⟩ := hY.out pre' (⟨k, hlt⟩, ⟨j, hjt⟩) wr hJ' (by rw [hlen'.out]; exact room_pairs hlt hjt)
          dsimp only [encP] at hy
          gi_wp2
          refine hR.mono ?_
          rintro e W3 (⟨rfl, hJ3, hk3⟩ | ⟨rfl, hJx3⟩)
          · have hk4 := Lib.hid (KeptB.trans hX'.out hk3)
            clear hk3
            gi_wp2
            go_roundw
            case rel => exact ⟨j + 1, _, by omega, by go_num, hJ3, hk4, by show _ = _; rw [List.length_append, hlen'.out]; simp; omega, fun a b h => by
              rw [List.mem_append]
              by_cases e : a.val = k ∧ b.val = j
              · right
                obtain ⟨e1, e2⟩ := e
                have ea : a = ⟨k, hlt⟩ := Fin.ext e1
                have eb : b = ⟨j, hjt⟩ := Fin.ext e2
                rw [ea, eb]; simp
              · left
                exact hin'.out a b (by omega)⟩
            case measure => simp [intOf]; omega
          · gi_wp2
            refine bodyPost_ret (results_none rfl _ _ _) rfl ?_
            exact ⟨⟨_, rfl⟩, .inr ⟨_, fun p x e a b hab => by
              obtain ⟨e1, e2⟩ := List.append_inj' e rfl
              have e3 : x = (⟨k, hlt⟩, ⟨j, hjt⟩) := by simpa using e2.symm
              rw [e3] at hab
              rw [← e1]
              exact hin'.out a b hab, hJx3⟩⟩
        · have hjt' : ¬ (j : Int) < n := by omega
          have hk4 := Lib.hid (KeptB.trans hX.out hX'.out)
          gi_wp2
          go_roundw
          case rel => exact ⟨k + 1, pre', by omega, by go_num, hJ', hk4, by show _ = _; rw [hlen'.out, Nat.succ_mul]; omega, fun a b h => hin'.out a b (by have := b.isLt; omega)⟩
          case measure => simp [intOf]; omega
    · have hlt' : ¬ (k : Int) < n := by omega
      gi_wp2
      go_end0
      exact ⟨⟨_, rfl⟩, .inl ⟨pre, fun a b => hin.out a b (by have := a.isLt; omega), hJ⟩⟩


theorem pentP_parts (m : Mx) (a d b : Nat) : pentP m a d b = (!decide (a = d) && (leB m a d && swbB m a d b)) := by
  unfold pentP swbB
  cases decide (a = d) <;> cases leB m a d <;> simp
/-- No pair so far has a pentagon. -/
def NoPent (m : Mx) (pre : List (Fin m.n × Fin m.n)) : Prop := ∀ q ∈ pre, ∀ d, d < m.n → pentP m q.1.val q.2.val d = false
theorem NoPent.snoc {m : Mx} {pre : List (Fin m.n × Fin m.n)} (h : NoPent m pre) {x : Fin m.n × Fin m.n} (hx : ∀ d, d < m.n → pentP m x.1.val x.2.val d = false) : NoPent m (pre ++ [x]) := fun q hq => by
  rcases List.mem_append.1 hq with hq | hq
  · exact h q hq
  · have e : q = x := by simpa using hq
    rw [e]; exact hx
theorem NoPent.all {m : Mx} {k : Nat} {z : Nat → Int} {pre : List (Fin m.n × Fin m.n)} (h : NoPent m pre) (hp : 0 < m.n) (hall : ∀ a b : Fin m.n, (a, b) ∈ pre) : pentV m k z = .tuple #[.int .i64 (-1), .int .i64 (-1), .int .i64 (-1), .bool false] :=
  pent_none fun i hi => h _ (hall ⟨i / m.n / m.n, (Nat.div_lt_iff_lt_mul hp).2 ((Nat.div_lt_iff_lt_mul hp).2 hi)⟩ ⟨i / m.n % m.n, Nat.mod_lt _ hp⟩) _ (Nat.mod_lt _ hp)
/-- A pentagon at the last pair, and none ahead of it. -/
structure PentHit (m : Mx) (pre : List (Fin m.n × Fin m.n)) (a d b : Nat) : Prop where
  hb : b < m.n
  at_ : ∃ p x, pre = p ++ [x] ∧ x.1.val = a ∧ x.2.val = d ∧ NoPent m p
  none_ : ∀ c, c < b → pentP m a d c = false
  hit : pentP m a d b = true
theorem PentHit.val {m : Mx} {k : Nat} {z : Nat → Int} {pre : List (Fin m.n × Fin m.n)} {a d b : Nat} (h : PentHit m pre a d b) (hl : logicB m k z = true) (hL : LexP pre) : pentV m k z = .tuple #[.int .i64 (a : Int), .int .i64 (d : Int), .int .i64 (b : Int), .bool true] := by
  obtain ⟨p, x, e, rfl, rfl, hn⟩ := h.at_
  have hd := x.2.isLt
  obtain ⟨e1, e2, e3⟩ := num_parts (a := x.1.val) hd h.hb
  have hp : 0 < m.n := by have := h.hb; omega
  rw [pent_hit hl (i := (x.1.val * m.n + x.2.val) * m.n + b) (num_lt x.1.isLt hd h.hb) (fun j hj => ?_) (by rw [e1, e2, e3]; exact h.hit), e1, e2, e3]
  have hj3 : j < m.n * m.n * m.n := Nat.lt_trans hj (num_lt x.1.isLt hd h.hb)
  have hA : j / m.n / m.n < m.n := (Nat.div_lt_iff_lt_mul hp).2 ((Nat.div_lt_iff_lt_mul hp).2 hj3)
  have hC : j / m.n % m.n < m.n := Nat.mod_lt _ hp
  have hE : j % m.n < m.n := Nat.mod_lt _ hp
  have key : (j / m.n / m.n < x.1.val ∨ (j / m.n / m.n = x.1.val ∧ j / m.n % m.n < x.2.val)) → pentP m (j / m.n / m.n) (j / m.n % m.n) (j % m.n) = false := fun hh =>
    hn _ (hL p x e ⟨j / m.n / m.n, hA⟩ ⟨j / m.n % m.n, hC⟩ hh) _ hE
  rcases num_lex hd h.hb hj with q | ⟨q1, q2⟩ | ⟨q1, q2, q3⟩
  · exact key (.inl q)
  · exact key (.inr ⟨q1, q2⟩)
  · rw [q1, q2]; exact h.none_ _ q3

set_option maxRecDepth 100000 in
set_option maxHeartbeats 4000000 in
theorem PentagonOf_no {w : World} {B : Nat} {ua : Option Addr} {l : Lay} {m : Mx} {na : Option Addr} {g o k nc : Nat} {z : Nat → Int} (h : LogAt w B ua l m na g o k z) (hl : logicB m k z = false) :
    Calls Try.prog 20 #[.agg #[.slice ua m.n l.cap, .slice na k nc]] w fun e w' => e = .returned (pentV m k z) ∧ Below w.heap.size w w' := by
  have HF := Lib.hid (pent_no_logic hl)
  have hX := BoxN.start w #[.slice ua m.n l.cap, .slice na k nc] 26
  have q0 := hX.cell 0 rfl
  have q1 := hX.cell 1 rfl
  have bw := hX.below
  have h2 := Lib.hid (h.step bw)
  have HL := Lib.hid hl
  have hsz : (w.alloc (.cells #[.slice ua m.n l.cap, .slice na k nc] 26)).heap.size ≥ w.heap.size + 1 := by simp
  have hrow2 : Hid (RowAt (w.alloc (.cells #[.slice ua m.n l.cap, .slice na k nc] 26)) (w.alloc (.cells #[.slice ua m.n l.cap, .slice na k nc] 26)).heap.size none 0 0 0 (fun _ => 0)) := ⟨fun c hc => absurd hc (Nat.not_lt_zero _)⟩
  clear hl h
  go_enter Try.func20, Try.ntmps20
  go_wp2_with fail
  go_step3
  go_wp2_with fail
  generalize hW : w.alloc (.cells #[.slice ua m.n l.cap, .slice na k nc] 26) = W0 at hX bw hsz h2 hrow2 q0 q1 ⊢
  clear hW
  go_at_call 42
  refine (algebraWith_any h2.out hrow2.out (by omega)).mono ?_
  rintro e w1 ⟨b1, (⟨hg, ob, tb, tG, rfl, hA⟩ | ⟨hg, rfl⟩)⟩
  · exfalso
    rw [HL.out] at hg
    cases hg
  · have B1 := bw.trans (b1.mono bw.size)
    have B2 := B1.alloc B1.size (.cells #[.slice none 0 0, .slice none 0 0, .slice none 0 0] 56)
    clear q0 q1 hrow2
    unfold noAlg
    go_wp2_with fail
    unfold Exit.noGoto
    exact bodyPost_ret (v := .tuple #[.int .i64 (-1), .int .i64 (-1), .int .i64 (-1), .bool false]) (by simp [results, Try.results20, go_sem]) rfl ⟨by rw [HF.out], B2⟩

set_option maxRecDepth 100000 in
set_option maxHeartbeats 4000000 in
theorem PentagonOf_any {w : World} {B : Nat} {ua : Option Addr} {l : Lay} {m : Mx} {na : Option Addr} {g o k nc : Nat} {z : Nat → Int} (h : LogAt w B ua l m na g o k z) :
    Calls Try.prog 20 #[.agg #[.slice ua m.n l.cap, .slice na k nc]] w fun e w' => e = .returned (pentV m k z) ∧ Below w.heap.size w w' := by
  cases hl : logicB m k z with
  | false => exact PentagonOf_no h hl
  | true =>
  have hlog := logicB_is hl
  obtain ⟨y0, o', hO0⟩ := hlog.ortho
  have hkn : k = m.n := hlog.pair.len
  subst hkn
  have hO := hO0.own
  obtain ⟨y, hy⟩ : ∃ y : Nat → Nat, y = fun c => (z c).toNat := ⟨_, rfl⟩
  rw [← hy] at hO
  have hn := hO.lat.order.top
  have hpos := hO.lat.order.pos
  have HL := Lib.hid hl
  have HO := Lib.hid hO
  obtain ⟨rfl, hgB, hg2⟩ := h.row.row 0 (by omega)
  have hgB' : g < w.heap.size := by have := h.hB; omega
  clear hl hO hlog hg2 hgB hO0 hy
  have hX := BoxN.start w #[.slice ua m.n l.cap, .slice (some ⟨g, o, none⟩) m.n nc] 26
  have q0 := hX.cell 0 rfl
  have q1 := hX.cell 1 rfl
  have bw := hX.below
  have h2 := Lib.hid (h.step bw)
  have hsz : (w.alloc (.cells #[.slice ua m.n l.cap, .slice (some ⟨g, o, none⟩) m.n nc] 26)).heap.size ≥ w.heap.size + 1 := by simp
  have hrow2 : Hid (RowAt (w.alloc (.cells #[.slice ua m.n l.cap, .slice (some ⟨g, o, none⟩) m.n nc] 26)) (w.alloc (.cells #[.slice ua m.n l.cap, .slice (some ⟨g, o, none⟩) m.n nc] 26)).heap.size none 0 0 0 (fun _ => 0)) := ⟨fun c hc => absurd hc (Nat.not_lt_zero _)⟩
  refine (callsIn_wide (n := 9)).1 ?_
  refine callsIn_of_wp_marks Try.func20 rfl trivial ?_ rfl
  simp only [Try.ntmps20, List.size_toArray, List.length_cons, List.length_nil, Nat.reduceAdd, Nat.reduceSub, Array.replicate_succ, Array.replicate_zero, List.push_toArray, List.append_toArray, List.nil_append, List.cons_append]
  gi_wp2_with fail
  refine wpIn_wide.2 (wp_scope_straight ((wpIn_wide (n := 9)).1 ?_))
  gi_wp2_with fail
  generalize hW : w.alloc (.cells #[.slice ua m.n l.cap, .slice (some ⟨g, o, none⟩) m.n nc] 26) = W0 at hX bw hsz h2 hrow2 q0 q1 ⊢
  clear hW h
  refine ⟨trivial, ?_⟩
  refine (callsIn_wide.2 (algebraWith_any h2.out hrow2.out (by omega))).mono ?_
  rintro e w1 ⟨b1, (⟨hg, ob, tb, tG, rfl, hA⟩ | ⟨hg, rfl⟩)⟩
  case inr =>
    exfalso
    rw [good_nil, Bool.and_true, logicB_true HO.out.logic] at hg
    cases hg
  clear hg hrow2 q0 q1
  have s1 := b1.size
  have B1 := bw.trans (b1.mono bw.size)
  have hY := BoxN.start w1 #[.slice ua m.n l.cap, .slice (some ⟨g, o, none⟩) m.n nc, .slice (some ⟨ob, 0, none⟩) 2 2] 56
  have e1 : (w1.alloc (.cells #[.slice ua m.n l.cap, .slice (some ⟨g, o, none⟩) m.n nc, .slice (some ⟨ob, 0, none⟩) 2 2] 56)).heap.size = w1.heap.size + 1 := World.size_alloc _ _
  have hI1 := Boxd.start (w1.alloc (.cells #[.slice ua m.n l.cap, .slice (some ⟨g, o, none⟩) m.n nc, .slice (some ⟨ob, 0, none⟩) 2 2] 56)) (.int .i64 (-1)) 3
  have e2 : ((w1.alloc (.cells #[.slice ua m.n l.cap, .slice (some ⟨g, o, none⟩) m.n nc, .slice (some ⟨ob, 0, none⟩) 2 2] 56)).alloc (.cells #[.int .i64 (-1)] 3)).heap.size = w1.heap.size + 1 + 1 := by rw [World.size_alloc, e1]
  have hI2 := Boxd.start ((w1.alloc (.cells #[.slice ua m.n l.cap, .slice (some ⟨g, o, none⟩) m.n nc, .slice (some ⟨ob, 0, none⟩) 2 2] 56)).alloc (.cells #[.int .i64 (-1)] 3)) (.int .i64 (-1)) 3
  have e3 : (((w1.alloc (.cells #[.slice ua m.n l.cap, .slice (some ⟨g, o, none⟩) m.n nc, .slice (some ⟨ob, 0, none⟩) 2 2] 56)).alloc (.cells #[.int .i64 (-1)] 3)).alloc (.cells #[.int .i64 (-1)] 3)).heap.size = w1.heap.size + 1 + 1 + 1 := by rw [World.size_alloc, e2]
  have hI3 := Boxd.start (((w1.alloc (.cells #[.slice ua m.n l.cap, .slice (some ⟨g, o, none⟩) m.n nc, .slice (some ⟨ob, 0, none⟩) 2 2] 56)).alloc (.cells #[.int .i64 (-1)] 3)).alloc (.cells #[.int .i64 (-1)] 3)) (.int .i64 (-1)) 3
  have e4 : ((((w1.alloc (.cells #[.slice ua m.n l.cap, .slice (some ⟨g, o, none⟩) m.n nc, .slice (some ⟨ob, 0, none⟩) 2 2] 56)).alloc (.cells #[.int .i64 (-1)] 3)).alloc (.cells #[.int .i64 (-1)] 3)).alloc (.cells #[.int .i64 (-1)] 3)).heap.size = w1.heap.size + 1 + 1 + 1 + 1 := by rw [World.size_alloc, e3]
  have hP := Boxd.start ((((w1.alloc (.cells #[.slice ua m.n l.cap, .slice (some ⟨g, o, none⟩) m.n nc, .slice (some ⟨ob, 0, none⟩) 2 2] 56)).alloc (.cells #[.int .i64 (-1)] 3)).alloc (.cells #[.int .i64 (-1)] 3)).alloc (.cells #[.int .i64 (-1)] 3)) (.slice ua m.n l.cap) 53
  have g2 := hI2.below.trans ((hI3.below.trans (hP.below.mono hI3.below.size)).mono hI2.below.size)
  have g3 := hI3.below.trans (hP.below.mono hI3.below.size)
  have x1 := (hI1.step g2).cell
  have y1 := (hI1.step g2).frozen
  have x2 := (hI2.step g3).cell
  have y2 := (hI2.step g3).frozen
  have x3 := (hI3.step hP.below).cell
  have y3 := (hI3.step hP.below).frozen
  have hP0 := hP.cell
  have hPs := hP.size
  rw [e1] at x1 y1
  rw [e2] at x2 y2
  rw [e3] at x3 y3
  rw [e4] at hP0 hPs
  have hYP := (hY.step (hI1.below.mono (by simp only [World.size_alloc]; omega))).step (g2.mono (by simp only [World.size_alloc]; omega))
  have hY4 := ((hY.step (hI1.below.mono (by simp only [World.size_alloc]; omega))).step (hI2.below.mono (by simp only [World.size_alloc]; omega))).step (hI3.below.mono (by simp only [World.size_alloc]; omega))
  obtain ⟨_, hL1⟩ := AL.of hA (h2.out.step b1) HO.out
  have hL2 := Lib.hid (hL1.step hYP.below)
  have BW := B1.trans (hYP.below.mono B1.size)
  have r0 := hY4.cell 0 rfl
  clear hA h2 hL1 hY hI1 hI2 hI3 hP g2 g3 e1 e2 e3 hY4
  unfold algV
  gi_wp2_with fail
  refine wpIn_wide.2 (wp_label ?_)
  gi_wp2_with fail
  refine ⟨trivial, ?_⟩
  refine (pairs_any _ _ _).mono ?_
  rintro e w' ⟨rfl, rfl⟩
  gi_wp2_with fail
  clear r0
  generalize hW0 : (((((w1.alloc (.cells #[.slice ua m.n l.cap, .slice (some ⟨g, o, none⟩) m.n nc, .slice (some ⟨ob, 0, none⟩) 2 2] 56)).alloc (.cells #[.int .i64 (-1)] 3)).alloc (.cells #[.int .i64 (-1)] 3)).alloc (.cells #[.int .i64 (-1)] 3)).alloc (.cells #[.slice ua m.n l.cap] 53)) = W2 at hP0 hPs hYP hL2 x1 y1 x2 y2 x3 y3 BW ⊢
  clear hW0 e4
  refine wpIn_rangeFunc_ownG rfl (by omega) (gf := 87) (lb := #[.pointer (some ⟨w1.heap.size + 1 + 1 + 1 + 1, 0, none⟩)]) rfl trivial (enters_of Try.func87 (by kernel_rfl) rfl)
    (pairs_stopsL _ m.n (by omega) hn (w1.heap.size + 1 + 1 + 1 + 1) l.cap ua W2 (by omega) hP0) KeptB.trans (KeptB.put (by omega)) (Below.refl _ _) (fun _ => rfl)
    (fun pre W => NoPent m pre ∧ Below W2.heap.size W2 W)
    (fun c pre W => ∃ a d b : Nat, (c = .exit 0 ∧ PentHit m pre a d b) ∧ (W.cell? ⟨w1.heap.size + 1, 0, none⟩ = some (.int .i64 (a : Int)) ∧ W.cell? ⟨w1.heap.size + 1 + 1, 0, none⟩ = some (.int .i64 (d : Int)) ∧ W.cell? ⟨w1.heap.size + 1 + 1 + 1, 0, none⟩ = some (.int .i64 (b : Int))) ∧ Below w.heap.size w W)
    (OwnFrom.and (ownFrom_pure _ _) (ownFrom_below (Nat.le_refl _) (Nat.le_refl _)))
    (fun c s A B row => fun ⟨a, d, b, h1, h2, h3⟩ hg hr => ⟨a, d, b, h1, ⟨cell_kept h2.1 hg (fun r e => (hr r e).2), cell_kept h2.2.1 hg (fun r e => (hr r e).2), cell_kept h2.2.2 hg (fun r e => (hr r e).2)⟩, ownFrom_below (β := Unit) (Nat.le_refl _) BW.size () A B row h3 hg hr⟩)
    ⟨fun p hp => absurd hp (by simp), Below.refl _ _⟩
    (fun x => { tmps := #[.agg #[.slice ua m.n l.cap, .slice (some ⟨g, o, none⟩) m.n nc], .pointer (some ⟨w.heap.size, 0, none⟩), .int .i64 0, .int .i64 0, .int .i64 0, .bool false, .pointer (some ⟨w1.heap.size, 0, none⟩), .bool true,
        .pointer (some ⟨w1.heap.size + 1, 0, none⟩), .pointer (some ⟨w1.heap.size + 1 + 1, 0, none⟩), .pointer (some ⟨w1.heap.size + 1 + 1 + 1, 0, none⟩), .int .i64 ((x.1.val : Nat) : Int), .int .i64 ((x.2.val : Nat) : Int), undef,
        .tuple #[.agg #[.slice ua m.n l.cap, .slice (some ⟨g, o, none⟩) m.n nc, .slice (some ⟨ob, 0, none⟩) 2 2], .bool true], .agg #[.slice ua m.n l.cap, .slice (some ⟨g, o, none⟩) m.n nc], .tuple #[.agg #[.slice ua m.n l.cap, .slice (some ⟨g, o, none⟩) m.n nc, .slice (some ⟨ob, 0, none⟩) 2 2], .bool true], .agg #[.slice ua m.n l.cap, .slice (some ⟨g, o, none⟩) m.n nc, .slice (some ⟨ob, 0, none⟩) 2 2], .bool true, .bool true, .bool false,
        .pointer (some ⟨w1.heap.size, 0, none⟩), .agg #[.slice ua m.n l.cap], .func (.func 87) #[] #[.pointer (some ⟨w1.heap.size + 1 + 1 + 1 + 1, 0, none⟩)],
        .int .i64 ((x.1.val : Nat) : Int), .int .i64 ((x.2.val : Nat) : Int), undef, undef, undef, undef, undef, undef, undef, undef, undef, undef, undef, undef, undef, undef, undef, undef, undef, undef, undef, undef, undef, undef, undef, undef, undef, undef, undef, undef, undef, undef, undef], defers := [] }) ?assign ?body ?done ?stop
  case assign =>
    intro lr x W K hK
    dsimp only
    clear hP0 hPs hYP hL2 x1 y1 x2 y2 x3 y3 BW hpos hn
    gi_wp2
    exact hK
  case body =>
    rintro lr pre ⟨⟨a, ha⟩, ⟨d, hd⟩⟩ W ⟨hp0, hB⟩ _
    have hp := Lib.hid hp0
    have hs := hB.size
    have hYW := hYP.step hB
    have hLW := Lib.hid (hL2.out.step hB)
    have r0 := hYW.cell 0 rfl
    have r1 := hYW.cell 1 rfl
    clear hp0 hP0
    dsimp only
    by_cases had : a = d
    · subst had
      have HN : Hid (∀ c, c < m.n → pentP m a a c = false) := fun c _ => by unfold pentP; simp
      have n1 : ((a : Int) == (a : Int)) = true := by simp
      gi_wp2_with fail
      refine ⟨trivial, ?_⟩
      gi_wp2_with fail
      exact ⟨keepsFrom_below (Below.refl _ _), rfl, hp.out.snoc HN.out, hB⟩
    · have n1 : ((a : Int) == (d : Int)) = false := by rw [beq_eq_false_iff_ne]; omega
      gi_wp2_with fail
      refine ⟨trivial, ?_⟩
      refine (CallsIn.inRound lr (callsIn_wide.2 (below_sq hLW.out.S ha hd))).mono ?_
      rintro e w3 ⟨rfl, b3⟩
      have hYx := hYW.step b3
      have hLx := Lib.hid (hLW.out.step b3)
      have hBx := hB.trans (b3.mono hs)
      have hsx := b3.size
      cases hle : leB m a d with
      | false =>
        have HN : Hid (∀ c, c < m.n → pentP m a d c = false) := fun c _ => by rw [pentP_parts, hle]; simp
        clear r0 r1 hle
        gi_wp2_with fail
        exact ⟨keepsFrom_below b3, b3.block _ (by omega), hp.out.snoc HN.out, hBx⟩
      | true =>
        have HLE := Lib.hid hle
        clear r0 r1 hle hYW hLW
        have r1 := hYx.cell 1 rfl
        gi_wp2_with fail
        gi_loopw [40] (fun i wi => ∃ c : Nat, c ≤ m.n ∧ i = .int .i64 c ∧ Below W.heap.size W wi ∧ Hid (∀ q, q < c → pentP m a d q = false)) (fun i _ => m.n - (intOf i).toNat)
        case atStart => exact ⟨0, Nat.zero_le _, rfl, b3, fun q hq => absurd hq (Nat.not_lt_zero _)⟩
        case round =>
          obtain ⟨c, hc, rfl, hD, hR⟩ := hrel
          clear r1
          have hBi := hB.trans (hD.mono hs)
          by_cases hct : c < m.n
          · have hct' : (c : Int) < m.n := by omega
            have hLi := Lib.hid (hL2.out.step hBi)
            have hYi := hYP.step hBi
            have r0 := hYi.cell 0 rfl
            have r1 := hYi.cell 1 rfl
            have r2 := hYi.cell 2 rfl
            cases hsw : swbB m a d c with
            | false =>
              have HS := Lib.hid hsw
              have HN : Hid (pentP m a d c = false) := by show _ = _; rw [pentP_parts, hsw]; simp
              clear hsw
              gi_wp2_with fail
              refine ⟨trivial, ?_⟩
              refine (CallsIn.inRound lr (callsIn_wide.2 (sameBoth_any (nc := nc) hLi.out ha hd hct))).mono ?_
              rintro e w5 ⟨rfl, b5⟩
              rw [HS.out]
              have hD5 := hD.trans (b5.mono hD.size)
              clear r0 r1 r2
              gi_wp2_with fail
              go_roundw
              case rel => exact ⟨c + 1, by omega, by go_num, hD5, fun q hq => by
                by_cases e : q = c
                · subst e; exact HN.out
                · exact hR.out q (by omega)⟩
              case measure => simp [intOf]; omega
            | true =>
              have HS := Lib.hid hsw
              have HT : Hid (pentP m a d c = true) := by show _ = _; rw [pentP_parts, hsw, HLE.out, decide_eq_false had]; rfl
              clear hsw
              gi_wp2_with fail
              refine ⟨trivial, ?_⟩
              refine (CallsIn.inRound lr (callsIn_wide.2 (sameBoth_any (nc := nc) hLi.out ha hd hct))).mono ?_
              rintro e w5 ⟨rfl, b5⟩
              rw [HS.out]
              have hD5 := hD.trans (b5.mono hD.size)
              have hB5 := hBi.trans (b5.mono hBi.size)
              have s5 := hB5.size
              have v1 := (hB5.cell (p := ⟨w1.heap.size + 1, 0, none⟩) (by show w1.heap.size + 1 < _; omega)).trans x1
              have v2 := (hB5.cell (p := ⟨w1.heap.size + 1 + 1, 0, none⟩) (by show w1.heap.size + 1 + 1 < _; omega)).trans x2
              have v3 := (hB5.cell (p := ⟨w1.heap.size + 1 + 1 + 1, 0, none⟩) (by show w1.heap.size + 1 + 1 + 1 < _; omega)).trans x3
              have f1 := (hB5.frozen (p := ⟨w1.heap.size + 1, 0, none⟩) (by show w1.heap.size + 1 < _; omega)).trans y1
              have f2 := (hB5.frozen (p := ⟨w1.heap.size + 1 + 1, 0, none⟩) (by show w1.heap.size + 1 + 1 < _; omega)).trans y2
              have f3 := (hB5.frozen (p := ⟨w1.heap.size + 1 + 1 + 1, 0, none⟩) (by show w1.heap.size + 1 + 1 + 1 < _; omega)).trans y3
              clear r0 r1 r2 x1 x2 x3 y1 y2 y3
              gi_wp2_with fail
              have k1 := World.cell?_setCell_same' w5 ⟨w1.heap.size + 1, 0, none⟩ (.int .i64 (a : Int)) (by rw [v1]; rfl)
              have k2 := World.cell?_setCell_same' (w5.setCell ⟨w1.heap.size + 1, 0, none⟩ (.int .i64 (a : Int))) ⟨w1.heap.size + 1 + 1, 0, none⟩ (.int .i64 (d : Int)) (by rw [World.cell?_setCell_other _ _ _ _ (by intro e; have h9 := congrArg Addr.block e; dsimp only at h9; omega), v2]; rfl)
              have k3 := World.cell?_setCell_same' ((w5.setCell ⟨w1.heap.size + 1, 0, none⟩ (.int .i64 (a : Int))).setCell ⟨w1.heap.size + 1 + 1, 0, none⟩ (.int .i64 (d : Int))) ⟨w1.heap.size + 1 + 1 + 1, 0, none⟩ (.int .i64 (c : Int)) (by rw [World.cell?_setCell_other _ _ _ _ (by intro e; have h9 := congrArg Addr.block e; dsimp only at h9; omega), World.cell?_setCell_other _ _ _ _ (by intro e; have h9 := congrArg Addr.block e; dsimp only at h9; omega), v3]; rfl)
              refine ⟨((keepsFrom_below hD5).trans ((KeepsOthers.setCell _ _ _).from _)).trans (((KeepsOthers.setCell _ _ _).from _).trans ((KeepsOthers.setCell _ _ _).from _)), a, d, c, ⟨rfl, ⟨hct, ⟨pre, _, rfl, rfl, rfl, hp.out⟩, hR.out, HT.out⟩⟩, ⟨?_, ?_, k3⟩, ?_⟩
              · rw [World.cell?_setCell_other _ _ _ _ (by intro e; have h9 := congrArg Addr.block e; dsimp only at h9; omega), World.cell?_setCell_other _ _ _ _ (by intro e; have h9 := congrArg Addr.block e; dsimp only at h9; omega)]
                exact k1
              · rw [World.cell?_setCell_other _ _ _ _ (by intro e; have h9 := congrArg Addr.block e; dsimp only at h9; omega)]
                exact k2
              · exact (((BW.trans (hB5.mono BW.size)).setCell (p := ⟨w1.heap.size + 1, 0, none⟩) (by show w.heap.size ≤ w1.heap.size + 1; omega) _).setCell (p := ⟨w1.heap.size + 1 + 1, 0, none⟩) (by show w.heap.size ≤ w1.heap.size + 1 + 1; omega) _).setCell (p := ⟨w1.heap.size + 1 + 1 + 1, 0, none⟩) (by show w.heap.size ≤ w1.heap.size + 1 + 1 + 1; omega) _
          · have hct' : ¬ (c : Int) < m.n := by omega
            gi_wp2_with fail
            exact ⟨keepsFrom_below hD, hD.block _ (by omega), hp.out.snoc (fun q hq => hR.out q (by show q < c; have hq : q < m.n := hq; omega)), hBi⟩
  case done =>
    rintro D ys W hD hys ⟨hp0, hB⟩ hK
    have HV := Lib.hid (hp0.all (k := m.n) (z := z) hpos hys)
    clear hp0
    have v1 := (hB.cell (p := ⟨w1.heap.size + 1, 0, none⟩) (by show w1.heap.size + 1 < _; omega)).trans x1
    have v2 := (hB.cell (p := ⟨w1.heap.size + 1 + 1, 0, none⟩) (by show w1.heap.size + 1 + 1 < _; omega)).trans x2
    have v3 := (hB.cell (p := ⟨w1.heap.size + 1 + 1 + 1, 0, none⟩) (by show w1.heap.size + 1 + 1 + 1 < _; omega)).trans x3
    have hbW := BW.trans (hB.mono BW.size)
    have hDs : w.heap.size ≤ D := Nat.le_trans BW.size hD
    gi_wp2_with fail
    have hS0 : (fun w' => w'.cell? ⟨w1.heap.size + 1, 0, none⟩ = some (.int .i64 (-1)) ∧ w'.cell? ⟨w1.heap.size + 1 + 1, 0, none⟩ = some (.int .i64 (-1)) ∧ w'.cell? ⟨w1.heap.size + 1 + 1 + 1, 0, none⟩ = some (.int .i64 (-1))) W.drew := ⟨v1, v2, v3⟩
    refine region_fence (fuel := 9) (listed := #[false, false, false, false, false, false, false, false, false]) (fun w' => w'.cell? ⟨w1.heap.size + 1, 0, none⟩ = some (.int .i64 (-1)) ∧ w'.cell? ⟨w1.heap.size + 1 + 1, 0, none⟩ = some (.int .i64 (-1)) ∧ w'.cell? ⟨w1.heap.size + 1 + 1 + 1, 0, none⟩ = some (.int .i64 (-1))) (by kernel_rfl) (by kernel_rfl) (by kernel_rfl) ?_
    refine hold_take (i := 0) (d := 52) (v := ?vn0) (listed' := #[true, false, false, false, false, false, false, false, false]) rfl (by kernel_rfl) (by kernel_rfl) (by kernel_rfl) rfl (by rfl) (by kernel_rfl) hS0 ?hn0 ?rn0
    case hn0 =>
      intro w' hSw
      obtain ⟨k0, k1, k2⟩ := hSw
      go_simp
      try with_reducible rfl
    simp only [List.setIfInBounds_toArray, List.set_cons_zero, List.set_cons_succ]
    refine hold_take (i := 1) (d := 53) (v := ?vn1) (listed' := #[true, true, false, false, false, false, false, false, false]) rfl (by kernel_rfl) (by kernel_rfl) (by kernel_rfl) rfl (by rfl) (by kernel_rfl) hS0 ?hn1 ?rn1
    case hn1 =>
      intro w' hSw
      obtain ⟨k0, k1, k2⟩ := hSw
      go_simp
      try with_reducible rfl
    simp only [List.setIfInBounds_toArray, List.set_cons_zero, List.set_cons_succ]
    refine hold_take (i := 2) (d := 54) (v := ?vn2) (listed' := #[true, true, true, false, false, false, false, false, false]) rfl (by kernel_rfl) (by kernel_rfl) (by kernel_rfl) rfl (by rfl) (by kernel_rfl) hS0 ?hn2 ?rn2
    case hn2 =>
      intro w' hSw
      obtain ⟨k0, k1, k2⟩ := hSw
      go_simp
      try with_reducible rfl
    simp only [List.setIfInBounds_toArray, List.set_cons_zero, List.set_cons_succ]
    refine hold_take (i := 3) (d := 55) (v := ?vn3) (listed' := #[true, true, true, true, false, false, false, false, false]) rfl (by kernel_rfl) (by kernel_rfl) (by kernel_rfl) rfl (by rfl) (by kernel_rfl) hS0 ?hn3 ?rn3
    case hn3 =>
      intro w' hSw
      obtain ⟨k0, k1, k2⟩ := hSw
      go_simp
      try with_reducible rfl
    simp only [List.setIfInBounds_toArray, List.set_cons_zero, List.set_cons_succ]
    refine hold_take (i := 4) (d := 56) (v := ?vn4) (listed' := #[true, true, true, true, true, false, false, false, false]) rfl (by kernel_rfl) (by kernel_rfl) (by kernel_rfl) rfl (by rfl) (by kernel_rfl) hS0 ?hn4 ?rn4
    case hn4 =>
      intro w' hSw
      obtain ⟨k0, k1, k2⟩ := hSw
      go_simp
      try with_reducible rfl
    simp only [List.setIfInBounds_toArray, List.set_cons_zero, List.set_cons_succ]
    refine hold_take (i := 5) (d := 2) (v := ?vn5) (listed' := #[true, true, true, true, true, true, false, false, false]) rfl (by kernel_rfl) (by kernel_rfl) (by kernel_rfl) rfl (by rfl) (by kernel_rfl) hS0 ?hn5 ?rn5
    case hn5 =>
      intro w' hSw
      obtain ⟨k0, k1, k2⟩ := hSw
      go_simp
      try with_reducible rfl
    simp only [List.setIfInBounds_toArray, List.set_cons_zero, List.set_cons_succ]
    refine hold_take (i := 6) (d := 3) (v := ?vn6) (listed' := #[true, true, true, true, true, true, true, false, false]) rfl (by kernel_rfl) (by kernel_rfl) (by kernel_rfl) rfl (by rfl) (by kernel_rfl) hS0 ?hn6 ?rn6
    case hn6 =>
      intro w' hSw
      obtain ⟨k0, k1, k2⟩ := hSw
      go_simp
      try with_reducible rfl
    simp only [List.setIfInBounds_toArray, List.set_cons_zero, List.set_cons_succ]
    refine hold_take (i := 7) (d := 4) (v := ?vn7) (listed' := #[true, true, true, true, true, true, true, true, false]) rfl (by kernel_rfl) (by kernel_rfl) (by kernel_rfl) rfl (by rfl) (by kernel_rfl) hS0 ?hn7 ?rn7
    case hn7 =>
      intro w' hSw
      obtain ⟨k0, k1, k2⟩ := hSw
      go_simp
      try with_reducible rfl
    simp only [List.setIfInBounds_toArray, List.set_cons_zero, List.set_cons_succ]
    refine hold_take (i := 8) (d := 5) (v := ?vn8) (listed' := #[true, true, true, true, true, true, true, true, true]) rfl (by kernel_rfl) (by kernel_rfl) (by kernel_rfl) rfl (by rfl) (by kernel_rfl) hS0 ?hn8 ?rn8
    case hn8 =>
      intro w' hSw
      obtain ⟨k0, k1, k2⟩ := hSw
      go_simp
      try with_reducible rfl
    simp only [List.setIfInBounds_toArray, List.set_cons_zero, List.set_cons_succ]
    refine hold_done (by kernel_rfl) ?_ _
    gi_wp2_with fail
    refine ⟨by simp, .inl ⟨_, _, rfl, run_takeDeferred (w := W.drew) hK, ?_⟩⟩
    refine ⟨.tuple #[.int .i64 (-1), .int .i64 (-1), .int .i64 (-1), .bool false], ?_, by rw [HV.out], hbW.drew.trans ((belowK_b (w := w) (Nat.le_refl _) _ D _ _ hDs hK rfl rfl))⟩
    simp [results, Try.f20, go_sem]
  case stop =>
    rintro D c pre W hD hLx ⟨a, d, b, ⟨rfl, hit⟩, ⟨k1, k2, k3⟩, hB⟩ hK
    have HV := Lib.hid (hit.val (k := m.n) (z := z) HL.out hLx)
    have hDs : w.heap.size ≤ D := Nat.le_trans BW.size hD
    have hge : (0 : Int) ≤ (a : Int) := Int.natCast_nonneg _
    clear hit hLx
    gi_wp2_with fail
    have hS0 : (fun w' => w'.cell? ⟨w1.heap.size + 1, 0, none⟩ = some (.int .i64 (a : Int)) ∧ w'.cell? ⟨w1.heap.size + 1 + 1, 0, none⟩ = some (.int .i64 (d : Int)) ∧ w'.cell? ⟨w1.heap.size + 1 + 1 + 1, 0, none⟩ = some (.int .i64 (b : Int))) W.drew := ⟨k1, k2, k3⟩
    refine region_fence (fuel := 9) (listed := #[false, false, false, false, false, false, false, false, false]) (fun w' => w'.cell? ⟨w1.heap.size + 1, 0, none⟩ = some (.int .i64 (a : Int)) ∧ w'.cell? ⟨w1.heap.size + 1 + 1, 0, none⟩ = some (.int .i64 (d : Int)) ∧ w'.cell? ⟨w1.heap.size + 1 + 1 + 1, 0, none⟩ = some (.int .i64 (b : Int))) (by kernel_rfl) (by kernel_rfl) (by kernel_rfl) ?_
    refine hold_take (i := 0) (d := 52) (v := ?vs0) (listed' := #[true, false, false, false, false, false, false, false, false]) rfl (by kernel_rfl) (by kernel_rfl) (by kernel_rfl) rfl (by rfl) (by kernel_rfl) hS0 ?hs0 ?rs0
    case hs0 =>
      intro w' hSw
      obtain ⟨k0, k1, k2⟩ := hSw
      go_simp
      try with_reducible rfl
    simp only [List.setIfInBounds_toArray, List.set_cons_zero, List.set_cons_succ]
    refine hold_take (i := 1) (d := 53) (v := ?vs1) (listed' := #[true, true, false, false, false, false, false, false, false]) rfl (by kernel_rfl) (by kernel_rfl) (by kernel_rfl) rfl (by rfl) (by kernel_rfl) hS0 ?hs1 ?rs1
    case hs1 =>
      intro w' hSw
      obtain ⟨k0, k1, k2⟩ := hSw
      go_simp
      try with_reducible rfl
    simp only [List.setIfInBounds_toArray, List.set_cons_zero, List.set_cons_succ]
    refine hold_take (i := 2) (d := 54) (v := ?vs2) (listed' := #[true, true, true, false, false, false, false, false, false]) rfl (by kernel_rfl) (by kernel_rfl) (by kernel_rfl) rfl (by rfl) (by kernel_rfl) hS0 ?hs2 ?rs2
    case hs2 =>
      intro w' hSw
      obtain ⟨k0, k1, k2⟩ := hSw
      go_simp
      try with_reducible rfl
    simp only [List.setIfInBounds_toArray, List.set_cons_zero, List.set_cons_succ]
    refine hold_take (i := 3) (d := 55) (v := ?vs3) (listed' := #[true, true, true, true, false, false, false, false, false]) rfl (by kernel_rfl) (by kernel_rfl) (by kernel_rfl) rfl (by rfl) (by kernel_rfl) hS0 ?hs3 ?rs3
    case hs3 =>
      intro w' hSw
      obtain ⟨k0, k1, k2⟩ := hSw
      go_simp
      try with_reducible rfl
    simp only [List.setIfInBounds_toArray, List.set_cons_zero, List.set_cons_succ]
    refine hold_take (i := 4) (d := 56) (v := ?vs4) (listed' := #[true, true, true, true, true, false, false, false, false]) rfl (by kernel_rfl) (by kernel_rfl) (by kernel_rfl) rfl (by rfl) (by kernel_rfl) hS0 ?hs4 ?rs4
    case hs4 =>
      intro w' hSw
      obtain ⟨k0, k1, k2⟩ := hSw
      go_simp
      try with_reducible rfl
    simp only [List.setIfInBounds_toArray, List.set_cons_zero, List.set_cons_succ]
    refine hold_take (i := 5) (d := 2) (v := ?vs5) (listed' := #[true, true, true, true, true, true, false, false, false]) rfl (by kernel_rfl) (by kernel_rfl) (by kernel_rfl) rfl (by rfl) (by kernel_rfl) hS0 ?hs5 ?rs5
    case hs5 =>
      intro w' hSw
      obtain ⟨k0, k1, k2⟩ := hSw
      go_simp
      try with_reducible rfl
    simp only [List.setIfInBounds_toArray, List.set_cons_zero, List.set_cons_succ]
    refine hold_take (i := 6) (d := 3) (v := ?vs6) (listed' := #[true, true, true, true, true, true, true, false, false]) rfl (by kernel_rfl) (by kernel_rfl) (by kernel_rfl) rfl (by rfl) (by kernel_rfl) hS0 ?hs6 ?rs6
    case hs6 =>
      intro w' hSw
      obtain ⟨k0, k1, k2⟩ := hSw
      go_simp
      try with_reducible rfl
    simp only [List.setIfInBounds_toArray, List.set_cons_zero, List.set_cons_succ]
    refine hold_take (i := 7) (d := 4) (v := ?vs7) (listed' := #[true, true, true, true, true, true, true, true, false]) rfl (by kernel_rfl) (by kernel_rfl) (by kernel_rfl) rfl (by rfl) (by kernel_rfl) hS0 ?hs7 ?rs7
    case hs7 =>
      intro w' hSw
      obtain ⟨k0, k1, k2⟩ := hSw
      go_simp
      try with_reducible rfl
    simp only [List.setIfInBounds_toArray, List.set_cons_zero, List.set_cons_succ]
    refine hold_take (i := 8) (d := 5) (v := ?vs8) (listed' := #[true, true, true, true, true, true, true, true, true]) rfl (by kernel_rfl) (by kernel_rfl) (by kernel_rfl) rfl (by rfl) (by kernel_rfl) hS0 ?hs8 ?rs8
    case hs8 =>
      intro w' hSw
      obtain ⟨k0, k1, k2⟩ := hSw
      go_simp
      try with_reducible rfl
    simp only [List.setIfInBounds_toArray, List.set_cons_zero, List.set_cons_succ]
    refine hold_done (by kernel_rfl) ?_ _
    gi_wp2_with fail
    refine ⟨by simp, .inl ⟨_, _, rfl, run_takeDeferred (w := W.drew) hK, ?_⟩⟩
    refine ⟨.tuple #[.int .i64 (a : Int), .int .i64 (d : Int), .int .i64 (b : Int), .bool true], ?_, by rw [HV.out], hB.drew.trans ((belowK_b (w := w) (Nat.le_refl _) _ D _ _ hDs hK rfl rfl))⟩
    simp [results, Try.f20, go_sem]
end Go.Proofs.Ytanhogaekdcooaa
