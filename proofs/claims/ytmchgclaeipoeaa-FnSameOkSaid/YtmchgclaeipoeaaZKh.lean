import Derived.Test.YtmchgclaeipoeaaZKf
import Derived.Test.YtmchgclaeipoeaaZKc
import Derived.Test.YtmchgclaeipoeaaZOi
namespace Go.Proofs.Ytmchgclaeipoeaa
open Go.RowKit Go.Deep

end Go.Proofs.Ytmchgclaeipoeaa
namespace Go.Proofs.Ytmchgclaeipoeaa
open Go.RowKit Go.Deep

def SvC (f : Fm) : Prop := ∀ {w : World} {B : Nat} {ua : Option Addr} {l : Lay} {m : Mx} {g o nc : Nat} {z : Nat → Int} {y : Nat → Nat} {n0 a b d : Nat} (s : ByteArray), s.data.toList = f.text → s.size ≤ 60 → LogAt w B ua l m (some ⟨g, o, none⟩) g o m.n z → Ortho m z y n0 → a < m.n → b < m.n → d < m.n →
    Calls Try.prog 22 #[.agg #[.slice ua m.n l.cap, .slice (some ⟨g, o, none⟩) m.n nc], .string s, .int .i64 (a : Int), .int .i64 (b : Int), .int .i64 (d : Int), .int .i64 (n0 : Int)] w fun e w' => e = .returned (.int .i64 ((valN m y n0 a b d f : Nat) : Int)) ∧ Below w.heap.size w w'
theorem log_not {w : World} {B : Nat} {ua : Option Addr} {l : Lay} {m : Mx} {na : Option Addr} {g o : Nat} {z : Nat → Int} {y : Nat → Nat} {n0 c : Nat} (h : LogAt w B ua l m na g o m.n z) (hO : Ortho m z y n0) (hc : c < m.n) : w.cell? ⟨g, o + c, none⟩ = some (.int .i64 ((y c : Nat) : Int)) := by
  have := (h.row.row c hc).2.2
  rw [hO.zy c hc] at this
  exact this
set_option maxRecDepth 100000 in
set_option maxHeartbeats 4000000 in
theorem sv_la : SvC (.la) := by
  intro w B ua l m g o nc z y n0 a b d s hs hsz h hO ha hb hd
  have hX := BoxN.start w #[.slice ua m.n l.cap, .slice (some ⟨g, o, none⟩) m.n nc] 26
  have BX := hX.below
  have q0 := hX.cell 0 rfl
  have q1 := hX.cell 1 rfl
  have HL := Lib.hid (h.step BX)
  have HO := Lib.hid hO
  have hn0 := hO.ho
  have hn12 := hO.lat.order.top
  have hn0' : (n0 : Int) < m.n := by omega
  have hltv := hO.val_lt ha hb hd
  clear h hO
  obtain ⟨-, ⟨h0, hc⟩, -, -, -⟩ := ba_cons (c := 97) (t := []) hs
  clear hs hltv
  go_enter Try.func22, Try.ntmps22
  go_wp2_with fail
  go_ret
  exact ⟨rfl, BX⟩
set_option maxRecDepth 100000 in
set_option maxHeartbeats 4000000 in
theorem sv_lb : SvC (.lb) := by
  intro w B ua l m g o nc z y n0 a b d s hs hsz h hO ha hb hd
  have hX := BoxN.start w #[.slice ua m.n l.cap, .slice (some ⟨g, o, none⟩) m.n nc] 26
  have BX := hX.below
  have q0 := hX.cell 0 rfl
  have q1 := hX.cell 1 rfl
  have HL := Lib.hid (h.step BX)
  have HO := Lib.hid hO
  have hn0 := hO.ho
  have hn12 := hO.lat.order.top
  have hn0' : (n0 : Int) < m.n := by omega
  have hltv := hO.val_lt ha hb hd
  clear h hO
  obtain ⟨-, ⟨h0, hc⟩, -, -, -⟩ := ba_cons (c := 98) (t := []) hs
  clear hs hltv
  go_enter Try.func22, Try.ntmps22
  go_wp2_with fail
  go_ret
  exact ⟨rfl, BX⟩
set_option maxRecDepth 100000 in
set_option maxHeartbeats 4000000 in
theorem sv_lc : SvC (.lc) := by
  intro w B ua l m g o nc z y n0 a b d s hs hsz h hO ha hb hd
  have hX := BoxN.start w #[.slice ua m.n l.cap, .slice (some ⟨g, o, none⟩) m.n nc] 26
  have BX := hX.below
  have q0 := hX.cell 0 rfl
  have q1 := hX.cell 1 rfl
  have HL := Lib.hid (h.step BX)
  have HO := Lib.hid hO
  have hn0 := hO.ho
  have hn12 := hO.lat.order.top
  have hn0' : (n0 : Int) < m.n := by omega
  have hltv := hO.val_lt ha hb hd
  clear h hO
  obtain ⟨-, ⟨h0, hc⟩, -, -, -⟩ := ba_cons (c := 99) (t := []) hs
  clear hs hltv
  go_enter Try.func22, Try.ntmps22
  go_wp2_with fail
  go_ret
  exact ⟨rfl, BX⟩
set_option maxRecDepth 100000 in
set_option maxHeartbeats 4000000 in
theorem sv_no : SvC (.no) := by
  intro w B ua l m g o nc z y n0 a b d s hs hsz h hO ha hb hd
  have hX := BoxN.start w #[.slice ua m.n l.cap, .slice (some ⟨g, o, none⟩) m.n nc] 26
  have BX := hX.below
  have q0 := hX.cell 0 rfl
  have q1 := hX.cell 1 rfl
  have HL := Lib.hid (h.step BX)
  have HO := Lib.hid hO
  have hn0 := hO.ho
  have hn12 := hO.lat.order.top
  have hn0' : (n0 : Int) < m.n := by omega
  have hltv := hO.val_lt ha hb hd
  clear h hO
  obtain ⟨-, ⟨h0, hc⟩, -, -, -⟩ := ba_cons (c := 48) (t := []) hs
  clear hs hltv
  go_enter Try.func22, Try.ntmps22
  go_wp2_with fail
  go_ret
  exact ⟨rfl, BX⟩
set_option maxRecDepth 100000 in
set_option maxHeartbeats 4000000 in
theorem sv_yes : SvC (.yes) := by
  intro w B ua l m g o nc z y n0 a b d s hs hsz h hO ha hb hd
  have hX := BoxN.start w #[.slice ua m.n l.cap, .slice (some ⟨g, o, none⟩) m.n nc] 26
  have BX := hX.below
  have q0 := hX.cell 0 rfl
  have q1 := hX.cell 1 rfl
  have HL := Lib.hid (h.step BX)
  have HO := Lib.hid hO
  have hn0 := hO.ho
  have hn12 := hO.lat.order.top
  have hn0' : (n0 : Int) < m.n := by omega
  have hltv := hO.val_lt ha hb hd
  clear h hO
  obtain ⟨-, ⟨h0, hc⟩, -, -, -⟩ := ba_cons (c := 49) (t := []) hs
  have c9 := log_not HL.out HO.out hn0
  clear hs hltv
  go_enter Try.func22, Try.ntmps22
  go_wp2_with fail
  go_ret
  exact ⟨rfl, BX⟩
set_option maxRecDepth 100000 in
set_option maxHeartbeats 4000000 in
theorem sv_neg {f : Fm} (IH : SvC f) : SvC (.neg f) := by
  intro w B ua l m g o nc z y n0 a b d s hs hsz h hO ha hb hd
  have hX := BoxN.start w #[.slice ua m.n l.cap, .slice (some ⟨g, o, none⟩) m.n nc] 26
  have BX := hX.below
  have q0 := hX.cell 0 rfl
  have q1 := hX.cell 1 rfl
  have HL := Lib.hid (h.step BX)
  have HO := Lib.hid hO
  have hn0 := hO.ho
  have hn12 := hO.lat.order.top
  have hn0' : (n0 : Int) < m.n := by omega
  have hltv := hO.val_lt ha hb hd
  clear h hO
  obtain ⟨_, ⟨h0, hc⟩, htl, hsz1, hsz2⟩ := ba_cons (c := 33) (t := f.text) hs
  have hsz3 : (s.extract 1 s.size).size ≤ 60 := by omega
  have h1s : (1 : Int) ≤ s.size := by omega
  clear hsz1 hsz2
  obtain ⟨V, hV⟩ : ∃ V, valN m y n0 a b d f = V := ⟨_, rfl⟩
  have hVlt : V < m.n := by rw [← hV]; exact hltv f
  have hVlt' : (V : Int) < m.n := by omega
  have HYV : Hid (valN m y n0 a b d (.neg f) = y V) := by show y _ = _; rw [hV]
  clear hs hltv
  go_enter Try.func22, Try.ntmps22
  go_wp2_with fail
  generalize w.alloc (.cells #[.slice ua m.n l.cap, .slice (some ⟨g, o, none⟩) m.n nc] 26) = W at hX HL BX q0 q1 ⊢
  have hX0 := hX.step (Below.refl _ W).drew
  have L0 := Lib.hid (HL.out.step (Below.refl _ W).drew)
  clear hX HL q0 q1
  have S0 : (fun w' => w'.cell? ⟨w.heap.size, 0, none⟩ = some (.slice ua m.n l.cap) ∧ w'.cell? ⟨w.heap.size, 1, none⟩ = some (.slice (some ⟨g, o, none⟩) m.n nc) ∧ w'.cell? ⟨g, o + V, none⟩ = some (.int .i64 ((y V : Nat) : Int))) W.drew := ⟨hX0.cell 0 rfl, hX0.cell 1 rfl, log_not L0.out HO.out hVlt⟩
  refine region_plain (fuel := 13) (listed := #[false, false, false, false, false, false, false, false, false, false, false, false, false]) (fun w' => w'.cell? ⟨w.heap.size, 0, none⟩ = some (.slice ua m.n l.cap) ∧ w'.cell? ⟨w.heap.size, 1, none⟩ = some (.slice (some ⟨g, o, none⟩) m.n nc) ∧ w'.cell? ⟨g, o + V, none⟩ = some (.int .i64 ((y V : Nat) : Int))) (by kernel_rfl) (by kernel_rfl) (by kernel_rfl) ?_
  refine hold_take (i := 0) (d := 39) (v := ?vT0) (listed' := #[true, false, false, false, false, false, false, false, false, false, false, false, false]) rfl (by kernel_rfl) (by kernel_rfl) (by kernel_rfl) rfl (by rfl) (by kernel_rfl) S0 ?hT0 ?rT0
  case hT0 =>
    intro w' hSw
    obtain ⟨k0, k1, k2⟩ := hSw
    go_simp
    first | with_reducible rfl | (rw [if_pos (by omega)]; done) | (rw [if_pos (by omega)]; with_reducible rfl) | (rw [if_pos (by omega), if_pos (by omega)]; done) | (rw [if_pos (by omega), if_pos (by omega)]; with_reducible rfl) | skip
  simp only [List.setIfInBounds_toArray, List.set_cons_zero, List.set_cons_succ]
  refine hold_take (i := 1) (d := 40) (v := ?vT1) (listed' := #[true, true, false, false, false, false, false, false, false, false, false, false, false]) rfl (by kernel_rfl) (by kernel_rfl) (by kernel_rfl) rfl (by rfl) (by kernel_rfl) S0 ?hT1 ?rT1
  case hT1 =>
    intro w' hSw
    obtain ⟨k0, k1, k2⟩ := hSw
    go_simp
    first | with_reducible rfl | (rw [if_pos (by omega)]; done) | (rw [if_pos (by omega)]; with_reducible rfl) | (rw [if_pos (by omega), if_pos (by omega)]; done) | (rw [if_pos (by omega), if_pos (by omega)]; with_reducible rfl) | skip
  simp only [List.setIfInBounds_toArray, List.set_cons_zero, List.set_cons_succ]
  refine hold_take (i := 2) (d := 41) (v := ?vT2) (listed' := #[true, true, true, false, false, false, false, false, false, false, false, false, false]) rfl (by kernel_rfl) (by kernel_rfl) (by kernel_rfl) rfl (by rfl) (by kernel_rfl) S0 ?hT2 ?rT2
  case hT2 =>
    intro w' hSw
    obtain ⟨k0, k1, k2⟩ := hSw
    go_simp
    first | with_reducible rfl | (rw [if_pos (by omega)]; done) | (rw [if_pos (by omega)]; with_reducible rfl) | (rw [if_pos (by omega), if_pos (by omega)]; done) | (rw [if_pos (by omega), if_pos (by omega)]; with_reducible rfl) | skip
  simp only [List.setIfInBounds_toArray, List.set_cons_zero, List.set_cons_succ]
  refine hold_take (i := 3) (d := 42) (v := ?vT3) (listed' := #[true, true, true, true, false, false, false, false, false, false, false, false, false]) rfl (by kernel_rfl) (by kernel_rfl) (by kernel_rfl) rfl (by rfl) (by kernel_rfl) S0 ?hT3 ?rT3
  case hT3 =>
    intro w' hSw
    obtain ⟨k0, k1, k2⟩ := hSw
    go_simp
    first | with_reducible rfl | (rw [if_pos (by omega)]; done) | (rw [if_pos (by omega)]; with_reducible rfl) | (rw [if_pos (by omega), if_pos (by omega)]; done) | (rw [if_pos (by omega), if_pos (by omega)]; with_reducible rfl) | skip
  simp only [List.setIfInBounds_toArray, List.set_cons_zero, List.set_cons_succ]
  refine hold_take (i := 4) (d := 43) (v := ?vT4) (listed' := #[true, true, true, true, true, false, false, false, false, false, false, false, false]) rfl (by kernel_rfl) (by kernel_rfl) (by kernel_rfl) rfl (by rfl) (by kernel_rfl) S0 ?hT4 ?rT4
  case hT4 =>
    intro w' hSw
    obtain ⟨k0, k1, k2⟩ := hSw
    go_simp
    first | with_reducible rfl | (rw [if_pos (by omega)]; done) | (rw [if_pos (by omega)]; with_reducible rfl) | (rw [if_pos (by omega), if_pos (by omega)]; done) | (rw [if_pos (by omega), if_pos (by omega)]; with_reducible rfl) | skip
  simp only [List.setIfInBounds_toArray, List.set_cons_zero, List.set_cons_succ]
  refine hold_take (i := 5) (d := 44) (v := ?vT5) (listed' := #[true, true, true, true, true, true, false, false, false, false, false, false, false]) rfl (by kernel_rfl) (by kernel_rfl) (by kernel_rfl) rfl (by rfl) (by kernel_rfl) S0 ?hT5 ?rT5
  case hT5 =>
    intro w' hSw
    obtain ⟨k0, k1, k2⟩ := hSw
    go_simp
    first | with_reducible rfl | (rw [if_pos (by omega)]; done) | (rw [if_pos (by omega)]; with_reducible rfl) | (rw [if_pos (by omega), if_pos (by omega)]; done) | (rw [if_pos (by omega), if_pos (by omega)]; with_reducible rfl) | skip
  simp only [List.setIfInBounds_toArray, List.set_cons_zero, List.set_cons_succ]
  refine hold_take (i := 6) (d := 45) (v := ?vT6) (listed' := #[true, true, true, true, true, true, true, false, false, false, false, false, false]) rfl (by kernel_rfl) (by kernel_rfl) (by kernel_rfl) rfl (by rfl) (by kernel_rfl) S0 ?hT6 ?rT6
  case hT6 =>
    intro w' hSw
    obtain ⟨k0, k1, k2⟩ := hSw
    go_simp
    first | with_reducible rfl | (rw [if_pos (by omega)]; done) | (rw [if_pos (by omega)]; with_reducible rfl) | (rw [if_pos (by omega), if_pos (by omega)]; done) | (rw [if_pos (by omega), if_pos (by omega)]; with_reducible rfl) | skip
  simp only [List.setIfInBounds_toArray, List.set_cons_zero, List.set_cons_succ]
  refine hold_take (i := 7) (d := 46) (v := ?vT7) (listed' := #[true, true, true, true, true, true, true, true, false, false, false, false, false]) rfl (by kernel_rfl) (by kernel_rfl) (by kernel_rfl) rfl (by rfl) (by kernel_rfl) S0 ?hT7 ?rT7
  case hT7 =>
    intro w' hSw
    obtain ⟨k0, k1, k2⟩ := hSw
    go_simp
    first | with_reducible rfl | (rw [if_pos (by omega)]; done) | (rw [if_pos (by omega)]; with_reducible rfl) | (rw [if_pos (by omega), if_pos (by omega)]; done) | (rw [if_pos (by omega), if_pos (by omega)]; with_reducible rfl) | skip
  simp only [List.setIfInBounds_toArray, List.set_cons_zero, List.set_cons_succ]
  refine hold_take (i := 8) (d := 47) (v := ?vT8) (listed' := #[true, true, true, true, true, true, true, true, true, false, false, false, false]) rfl (by kernel_rfl) (by kernel_rfl) (by kernel_rfl) rfl (by rfl) (by kernel_rfl) S0 ?hT8 ?rT8
  case hT8 =>
    intro w' hSw
    obtain ⟨k0, k1, k2⟩ := hSw
    go_simp
    first | with_reducible rfl | (rw [if_pos (by omega)]; done) | (rw [if_pos (by omega)]; with_reducible rfl) | (rw [if_pos (by omega), if_pos (by omega)]; done) | (rw [if_pos (by omega), if_pos (by omega)]; with_reducible rfl) | skip
  simp only [List.setIfInBounds_toArray, List.set_cons_zero, List.set_cons_succ]
  refine hold_call (i := 9) (d := 48) (listed' := #[true, true, true, true, true, true, true, true, true, true, false, false, false]) rfl (by kernel_rfl) rfl (by rfl) (by kernel_rfl) ?heT9 (IH (nc := nc) _ htl hsz3 L0.out HO.out ha hb hd) ?hcT9
  case heT9 => go_simp
  rintro e x1 ⟨rfl, bb1⟩
  have hX1 := hX0.step bb1
  have L1 := Lib.hid (L0.out.step bb1)
  rw [hV]
  have S1 : (fun w' => w'.cell? ⟨w.heap.size, 0, none⟩ = some (.slice ua m.n l.cap) ∧ w'.cell? ⟨w.heap.size, 1, none⟩ = some (.slice (some ⟨g, o, none⟩) m.n nc) ∧ w'.cell? ⟨g, o + V, none⟩ = some (.int .i64 ((y V : Nat) : Int))) x1 := ⟨hX1.cell 0 rfl, hX1.cell 1 rfl, log_not L1.out HO.out hVlt⟩
  clear S0 hX0 L0 bb1
  refine ⟨_, rfl, S1, ?_⟩
  simp only [List.setIfInBounds_toArray, List.set_cons_zero, List.set_cons_succ]
  refine hold_take (i := 10) (d := 49) (v := ?vT10) (listed' := #[true, true, true, true, true, true, true, true, true, true, true, false, false]) rfl (by kernel_rfl) (by kernel_rfl) (by kernel_rfl) rfl (by rfl) (by kernel_rfl) S1 ?hT10 ?rT10
  case hT10 =>
    intro w' hSw
    obtain ⟨k0, k1, k2⟩ := hSw
    go_simp
    first | with_reducible rfl | (rw [if_pos (by omega)]; done) | (rw [if_pos (by omega)]; with_reducible rfl) | (rw [if_pos (by omega), if_pos (by omega)]; done) | (rw [if_pos (by omega), if_pos (by omega)]; with_reducible rfl) | skip
  simp only [List.setIfInBounds_toArray, List.set_cons_zero, List.set_cons_succ]
  refine hold_take (i := 11) (d := 50) (v := ?vT11) (listed' := #[true, true, true, true, true, true, true, true, true, true, true, true, false]) rfl (by kernel_rfl) (by kernel_rfl) (by kernel_rfl) rfl (by rfl) (by kernel_rfl) S1 ?hT11 ?rT11
  case hT11 =>
    intro w' hSw
    obtain ⟨k0, k1, k2⟩ := hSw
    go_simp
    first | with_reducible rfl | (rw [if_pos (by omega)]; done) | (rw [if_pos (by omega)]; with_reducible rfl) | (rw [if_pos (by omega), if_pos (by omega)]; done) | (rw [if_pos (by omega), if_pos (by omega)]; with_reducible rfl) | skip
  simp only [List.setIfInBounds_toArray, List.set_cons_zero, List.set_cons_succ]
  refine hold_take (i := 12) (d := 12) (v := ?vT12) (listed' := #[true, true, true, true, true, true, true, true, true, true, true, true, true]) rfl (by kernel_rfl) (by kernel_rfl) (by kernel_rfl) rfl (by rfl) (by kernel_rfl) S1 ?hT12 ?rT12
  case hT12 =>
    intro w' hSw
    obtain ⟨k0, k1, k2⟩ := hSw
    go_simp
    first | with_reducible rfl | (rw [if_pos (by omega)]; done) | (rw [if_pos (by omega)]; with_reducible rfl) | (rw [if_pos (by omega), if_pos (by omega)]; done) | (rw [if_pos (by omega), if_pos (by omega)]; with_reducible rfl) | skip
  simp only [List.setIfInBounds_toArray, List.set_cons_zero, List.set_cons_succ]
  refine hold_done (by kernel_rfl) ?_ _
  go_wp2_with fail
  go_returns
  exact ⟨by rw [HYV.out]; rfl, hX1.below⟩
set_option maxRecDepth 100000 in
set_option maxHeartbeats 4000000 in
theorem sv_meet {f g : Fm} (IHf : SvC f) (IHg : SvC g) : SvC (.meet f g) := by
  intro w B ua l m gg o nc z y n0 a b d s hs hsz h hO ha hb hd
  have hX := BoxN.start w #[.slice ua m.n l.cap, .slice (some ⟨gg, o, none⟩) m.n nc] 26
  have BX := hX.below
  have q0 := hX.cell 0 rfl
  have q1 := hX.cell 1 rfl
  have HL := Lib.hid (h.step BX)
  have HO := Lib.hid hO
  have hn0 := hO.ho
  have hn12 := hO.lat.order.top
  have hn0' : (n0 : Int) < m.n := by omega
  have hltv := hO.val_lt ha hb hd
  clear h hO
  have hs' : s.data.toList = 40 :: (f.text ++ 38 :: (g.text ++ [41])) := hs
  obtain ⟨-, ⟨h0, hc⟩, -, -, -⟩ := ba_cons hs'
  have hlen : s.size = f.text.length + g.text.length + 3 := by rw [size_data, hs']; simp; omega
  obtain ⟨M, hM⟩ : ∃ M, 1 + f.text.length = M := ⟨_, rfl⟩
  have HE : Hid (endF s.data.toList 1 = (M : Int)) := by
    show _ = _
    rw [← hM]
    exact end_some (r := 38 :: (g.text ++ [41])) (by rw [hs']; exact headF_text f _)
  have hdM : s.data.toList.drop M = 38 :: (g.text ++ [41]) := by rw [hs', ← hM, Nat.add_comm, List.drop_succ_cons, List.drop_left]
  have hMs : M < s.size := by omega
  have hMs' : (M : Int) < s.size := by omega
  have hM1 : 1 ≤ M := by omega
  have hM60 : (M : Int) ≤ 60 := by omega
  have hcM : s[M] = 38 := by
    have e1 := at_data hMs
    have e2 := congrArg List.head? hdM
    rw [List.head?_drop, e1] at e2
    exact Option.some.inj e2
  have hd1 : (s.extract 1 M).data.toList = f.text := by rw [ext_data, hs', ← hM, Nat.add_sub_cancel_left]; exact List.take_left
  have hd2 : (s.extract (M + 1) (s.size - 1)).data.toList = g.text := by
    rw [ext_data, ← List.drop_drop, hdM, List.drop_succ_cons, List.drop_zero]
    rw [show s.size - 1 - (M + 1) = g.text.length by omega]
    exact List.take_left
  have he1 : (s.extract 1 M).size ≤ 60 := by rw [size_data, hd1]; omega
  have he2 : (s.extract (M + 1) (s.size - 1)).size ≤ 60 := by rw [size_data, hd2]; omega
  have HD1 := Lib.hid hd1
  have HW1 : Hid (IntKind.i64.wrap ((M : Int) + 1) = ((M + 1 : Nat) : Int)) := by show _ = _; simp (disch := omega) only [IntWalk.i64_in]; omega
  have HW2 : Hid (IntKind.i64.wrap ((s.size : Int) - 1) = ((s.size - 1 : Nat) : Int)) := by show _ = _; simp (disch := omega) only [IntWalk.i64_in]; omega
  have HD2 := Lib.hid hd2
  have HLT := Lib.hid hltv
  have hM2 : (M : Int) + 1 ≤ (s.size : Int) - 1 := by omega
  have hs1 : (1 : Int) ≤ s.size := by omega
  have hs60 : (s.size : Int) ≤ 60 := by omega
  clear hs hs' hltv hdM hd1 hd2 hlen hM
  go_enter Try.func22, Try.ntmps22
  go_wp2_with fail
  go_at_call 44
  refine (l10End_any s 1 1 rfl (by omega) _).mono ?_
  rintro e w1 ⟨rfl, rfl⟩
  rw [HE.out]
  go_wp2_with fail
  generalize w.alloc (.cells #[.slice ua m.n l.cap, .slice (some ⟨gg, o, none⟩) m.n nc] 26) = W at hX HL BX q0 q1 ⊢
  have hX1 := hX.step (Below.refl _ W).drew
  have L1 := Lib.hid (HL.out.step (Below.refl _ W).drew)
  clear hX HL q0 q1
  have S1 : (fun w' => w'.cell? ⟨w.heap.size, 0, none⟩ = some (.slice ua m.n l.cap) ∧ w'.cell? ⟨w.heap.size, 1, none⟩ = some (.slice (some ⟨gg, o, none⟩) m.n nc)) W.drew := ⟨hX1.cell 0 rfl, hX1.cell 1 rfl⟩
  refine region_plain (fuel := 10) (listed := #[false, false, false, false, false, false, false, false, false, false]) (fun w' => w'.cell? ⟨w.heap.size, 0, none⟩ = some (.slice ua m.n l.cap) ∧ w'.cell? ⟨w.heap.size, 1, none⟩ = some (.slice (some ⟨gg, o, none⟩) m.n nc)) (by kernel_rfl) (by kernel_rfl) (by kernel_rfl) ?_
  refine hold_take (i := 0) (d := 53) (v := ?vP0) (listed' := #[true, false, false, false, false, false, false, false, false, false]) rfl (by kernel_rfl) (by kernel_rfl) (by kernel_rfl) rfl (by rfl) (by kernel_rfl) S1 ?hP0 ?rP0
  case hP0 =>
    intro w' hSw
    obtain ⟨k0, k1⟩ := hSw
    go_simp
    first | with_reducible rfl | (rw [if_pos (by omega)]; done) | (rw [if_pos (by omega)]; with_reducible rfl) | (rw [if_pos (by omega), if_pos (by omega)]; done) | (rw [if_pos (by omega), if_pos (by omega)]; with_reducible rfl) | (simp only [HW1.out, HW2.out, Int.toNat_natCast]; rw [if_pos (by omega), if_pos (by omega)]; done) | (simp only [HW1.out, HW2.out, Int.toNat_natCast]; rw [if_pos (by omega), if_pos (by omega)]; with_reducible rfl) | skip
  simp only [List.setIfInBounds_toArray, List.set_cons_zero, List.set_cons_succ]
  refine hold_take (i := 1) (d := 54) (v := ?vP1) (listed' := #[true, true, false, false, false, false, false, false, false, false]) rfl (by kernel_rfl) (by kernel_rfl) (by kernel_rfl) rfl (by rfl) (by kernel_rfl) S1 ?hP1 ?rP1
  case hP1 =>
    intro w' hSw
    obtain ⟨k0, k1⟩ := hSw
    go_simp
    first | with_reducible rfl | (rw [if_pos (by omega)]; done) | (rw [if_pos (by omega)]; with_reducible rfl) | (rw [if_pos (by omega), if_pos (by omega)]; done) | (rw [if_pos (by omega), if_pos (by omega)]; with_reducible rfl) | (simp only [HW1.out, HW2.out, Int.toNat_natCast]; rw [if_pos (by omega), if_pos (by omega)]; done) | (simp only [HW1.out, HW2.out, Int.toNat_natCast]; rw [if_pos (by omega), if_pos (by omega)]; with_reducible rfl) | skip
  simp only [List.setIfInBounds_toArray, List.set_cons_zero, List.set_cons_succ]
  refine hold_take (i := 2) (d := 55) (v := ?vP2) (listed' := #[true, true, true, false, false, false, false, false, false, false]) rfl (by kernel_rfl) (by kernel_rfl) (by kernel_rfl) rfl (by rfl) (by kernel_rfl) S1 ?hP2 ?rP2
  case hP2 =>
    intro w' hSw
    obtain ⟨k0, k1⟩ := hSw
    go_simp
    first | with_reducible rfl | (rw [if_pos (by omega)]; done) | (rw [if_pos (by omega)]; with_reducible rfl) | (rw [if_pos (by omega), if_pos (by omega)]; done) | (rw [if_pos (by omega), if_pos (by omega)]; with_reducible rfl) | (simp only [HW1.out, HW2.out, Int.toNat_natCast]; rw [if_pos (by omega), if_pos (by omega)]; done) | (simp only [HW1.out, HW2.out, Int.toNat_natCast]; rw [if_pos (by omega), if_pos (by omega)]; with_reducible rfl) | skip
  simp only [List.setIfInBounds_toArray, List.set_cons_zero, List.set_cons_succ]
  refine hold_take (i := 3) (d := 56) (v := ?vP3) (listed' := #[true, true, true, true, false, false, false, false, false, false]) rfl (by kernel_rfl) (by kernel_rfl) (by kernel_rfl) rfl (by rfl) (by kernel_rfl) S1 ?hP3 ?rP3
  case hP3 =>
    intro w' hSw
    obtain ⟨k0, k1⟩ := hSw
    go_simp
    first | with_reducible rfl | (rw [if_pos (by omega)]; done) | (rw [if_pos (by omega)]; with_reducible rfl) | (rw [if_pos (by omega), if_pos (by omega)]; done) | (rw [if_pos (by omega), if_pos (by omega)]; with_reducible rfl) | (simp only [HW1.out, HW2.out, Int.toNat_natCast]; rw [if_pos (by omega), if_pos (by omega)]; done) | (simp only [HW1.out, HW2.out, Int.toNat_natCast]; rw [if_pos (by omega), if_pos (by omega)]; with_reducible rfl) | skip
  simp only [List.setIfInBounds_toArray, List.set_cons_zero, List.set_cons_succ]
  refine hold_take (i := 4) (d := 57) (v := ?vP4) (listed' := #[true, true, true, true, true, false, false, false, false, false]) rfl (by kernel_rfl) (by kernel_rfl) (by kernel_rfl) rfl (by rfl) (by kernel_rfl) S1 ?hP4 ?rP4
  case hP4 =>
    intro w' hSw
    obtain ⟨k0, k1⟩ := hSw
    go_simp
    first | with_reducible rfl | (rw [if_pos (by omega)]; done) | (rw [if_pos (by omega)]; with_reducible rfl) | (rw [if_pos (by omega), if_pos (by omega)]; done) | (rw [if_pos (by omega), if_pos (by omega)]; with_reducible rfl) | (simp only [HW1.out, HW2.out, Int.toNat_natCast]; rw [if_pos (by omega), if_pos (by omega)]; done) | (simp only [HW1.out, HW2.out, Int.toNat_natCast]; rw [if_pos (by omega), if_pos (by omega)]; with_reducible rfl) | skip
  simp only [List.setIfInBounds_toArray, List.set_cons_zero, List.set_cons_succ]
  refine hold_take (i := 5) (d := 58) (v := ?vP5) (listed' := #[true, true, true, true, true, true, false, false, false, false]) rfl (by kernel_rfl) (by kernel_rfl) (by kernel_rfl) rfl (by rfl) (by kernel_rfl) S1 ?hP5 ?rP5
  case hP5 =>
    intro w' hSw
    obtain ⟨k0, k1⟩ := hSw
    go_simp
    first | with_reducible rfl | (rw [if_pos (by omega)]; done) | (rw [if_pos (by omega)]; with_reducible rfl) | (rw [if_pos (by omega), if_pos (by omega)]; done) | (rw [if_pos (by omega), if_pos (by omega)]; with_reducible rfl) | (simp only [HW1.out, HW2.out, Int.toNat_natCast]; rw [if_pos (by omega), if_pos (by omega)]; done) | (simp only [HW1.out, HW2.out, Int.toNat_natCast]; rw [if_pos (by omega), if_pos (by omega)]; with_reducible rfl) | skip
  simp only [List.setIfInBounds_toArray, List.set_cons_zero, List.set_cons_succ]
  refine hold_take (i := 6) (d := 59) (v := ?vP6) (listed' := #[true, true, true, true, true, true, true, false, false, false]) rfl (by kernel_rfl) (by kernel_rfl) (by kernel_rfl) rfl (by rfl) (by kernel_rfl) S1 ?hP6 ?rP6
  case hP6 =>
    intro w' hSw
    obtain ⟨k0, k1⟩ := hSw
    go_simp
    first | with_reducible rfl | (rw [if_pos (by omega)]; done) | (rw [if_pos (by omega)]; with_reducible rfl) | (rw [if_pos (by omega), if_pos (by omega)]; done) | (rw [if_pos (by omega), if_pos (by omega)]; with_reducible rfl) | (simp only [HW1.out, HW2.out, Int.toNat_natCast]; rw [if_pos (by omega), if_pos (by omega)]; done) | (simp only [HW1.out, HW2.out, Int.toNat_natCast]; rw [if_pos (by omega), if_pos (by omega)]; with_reducible rfl) | skip
  simp only [List.setIfInBounds_toArray, List.set_cons_zero, List.set_cons_succ]
  refine hold_take (i := 7) (d := 60) (v := ?vP7) (listed' := #[true, true, true, true, true, true, true, true, false, false]) rfl (by kernel_rfl) (by kernel_rfl) (by kernel_rfl) rfl (by rfl) (by kernel_rfl) S1 ?hP7 ?rP7
  case hP7 =>
    intro w' hSw
    obtain ⟨k0, k1⟩ := hSw
    go_simp
    first | with_reducible rfl | (rw [if_pos (by omega)]; done) | (rw [if_pos (by omega)]; with_reducible rfl) | (rw [if_pos (by omega), if_pos (by omega)]; done) | (rw [if_pos (by omega), if_pos (by omega)]; with_reducible rfl) | (simp only [HW1.out, HW2.out, Int.toNat_natCast]; rw [if_pos (by omega), if_pos (by omega)]; done) | (simp only [HW1.out, HW2.out, Int.toNat_natCast]; rw [if_pos (by omega), if_pos (by omega)]; with_reducible rfl) | skip
  simp only [List.setIfInBounds_toArray, List.set_cons_zero, List.set_cons_succ]
  refine hold_call (i := 8) (d := 61) (listed' := #[true, true, true, true, true, true, true, true, true, false]) rfl (by kernel_rfl) rfl (by rfl) (by kernel_rfl) ?heP8 (IHf (nc := nc) _ HD1.out he1 L1.out HO.out ha hb hd) ?hcP8
  case heP8 => go_simp
  rintro e x1 ⟨rfl, bb1⟩
  have hX2 := hX1.step bb1
  have L2 := Lib.hid (L1.out.step bb1)
  have S2 : (fun w' => w'.cell? ⟨w.heap.size, 0, none⟩ = some (.slice ua m.n l.cap) ∧ w'.cell? ⟨w.heap.size, 1, none⟩ = some (.slice (some ⟨gg, o, none⟩) m.n nc)) x1 := ⟨hX2.cell 0 rfl, hX2.cell 1 rfl⟩
  clear S1 hX1 L1 bb1
  refine ⟨_, rfl, S2, ?_⟩
  simp only [List.setIfInBounds_toArray, List.set_cons_zero, List.set_cons_succ]
  refine hold_take (i := 9) (d := 14) (v := ?vP9) (listed' := #[true, true, true, true, true, true, true, true, true, true]) rfl (by kernel_rfl) (by kernel_rfl) (by kernel_rfl) rfl (by rfl) (by kernel_rfl) S2 ?hP9 ?rP9
  case hP9 =>
    intro w' hSw
    obtain ⟨k0, k1⟩ := hSw
    go_simp
    first | with_reducible rfl | (rw [if_pos (by omega)]; done) | (rw [if_pos (by omega)]; with_reducible rfl) | (rw [if_pos (by omega), if_pos (by omega)]; done) | (rw [if_pos (by omega), if_pos (by omega)]; with_reducible rfl) | (simp only [HW1.out, HW2.out, Int.toNat_natCast]; rw [if_pos (by omega), if_pos (by omega)]; done) | (simp only [HW1.out, HW2.out, Int.toNat_natCast]; rw [if_pos (by omega), if_pos (by omega)]; with_reducible rfl) | skip
  simp only [List.setIfInBounds_toArray, List.set_cons_zero, List.set_cons_succ]
  refine hold_done (by kernel_rfl) ?_ _
  go_wp2_with fail
  have hX3 := hX2.step (Below.refl _ x1).drew
  have L3 := Lib.hid (L2.out.step (Below.refl _ x1).drew)
  have S3 : (fun w' => w'.cell? ⟨w.heap.size, 0, none⟩ = some (.slice ua m.n l.cap) ∧ w'.cell? ⟨w.heap.size, 1, none⟩ = some (.slice (some ⟨gg, o, none⟩) m.n nc)) x1.drew := ⟨hX3.cell 0 rfl, hX3.cell 1 rfl⟩
  clear hX2 L2 S2
  refine region_plain (fuel := 14) (listed := #[false, false, false, false, false, false, false, false, false, false, false, false, false, false]) (fun w' => w'.cell? ⟨w.heap.size, 0, none⟩ = some (.slice ua m.n l.cap) ∧ w'.cell? ⟨w.heap.size, 1, none⟩ = some (.slice (some ⟨gg, o, none⟩) m.n nc)) (by kernel_rfl) (by kernel_rfl) (by kernel_rfl) ?_
  refine hold_take (i := 0) (d := 62) (v := ?vQ0) (listed' := #[true, false, false, false, false, false, false, false, false, false, false, false, false, false]) rfl (by kernel_rfl) (by kernel_rfl) (by kernel_rfl) rfl (by rfl) (by kernel_rfl) S3 ?hQ0 ?rQ0
  case hQ0 =>
    intro w' hSw
    obtain ⟨k0, k1⟩ := hSw
    go_simp
    first | with_reducible rfl | (rw [if_pos (by omega)]; done) | (rw [if_pos (by omega)]; with_reducible rfl) | (rw [if_pos (by omega), if_pos (by omega)]; done) | (rw [if_pos (by omega), if_pos (by omega)]; with_reducible rfl) | (simp only [HW1.out, HW2.out, Int.toNat_natCast]; rw [if_pos (by omega), if_pos (by omega)]; done) | (simp only [HW1.out, HW2.out, Int.toNat_natCast]; rw [if_pos (by omega), if_pos (by omega)]; with_reducible rfl) | skip
  simp only [List.setIfInBounds_toArray, List.set_cons_zero, List.set_cons_succ]
  refine hold_take (i := 1) (d := 63) (v := ?vQ1) (listed' := #[true, true, false, false, false, false, false, false, false, false, false, false, false, false]) rfl (by kernel_rfl) (by kernel_rfl) (by kernel_rfl) rfl (by rfl) (by kernel_rfl) S3 ?hQ1 ?rQ1
  case hQ1 =>
    intro w' hSw
    obtain ⟨k0, k1⟩ := hSw
    go_simp
    first | with_reducible rfl | (rw [if_pos (by omega)]; done) | (rw [if_pos (by omega)]; with_reducible rfl) | (rw [if_pos (by omega), if_pos (by omega)]; done) | (rw [if_pos (by omega), if_pos (by omega)]; with_reducible rfl) | (simp only [HW1.out, HW2.out, Int.toNat_natCast]; rw [if_pos (by omega), if_pos (by omega)]; done) | (simp only [HW1.out, HW2.out, Int.toNat_natCast]; rw [if_pos (by omega), if_pos (by omega)]; with_reducible rfl) | skip
  simp only [List.setIfInBounds_toArray, List.set_cons_zero, List.set_cons_succ]
  refine hold_take (i := 2) (d := 64) (v := ?vQ2) (listed' := #[true, true, true, false, false, false, false, false, false, false, false, false, false, false]) rfl (by kernel_rfl) (by kernel_rfl) (by kernel_rfl) rfl (by rfl) (by kernel_rfl) S3 ?hQ2 ?rQ2
  case hQ2 =>
    intro w' hSw
    obtain ⟨k0, k1⟩ := hSw
    go_simp
    first | with_reducible rfl | (rw [if_pos (by omega)]; done) | (rw [if_pos (by omega)]; with_reducible rfl) | (rw [if_pos (by omega), if_pos (by omega)]; done) | (rw [if_pos (by omega), if_pos (by omega)]; with_reducible rfl) | (simp only [HW1.out, HW2.out, Int.toNat_natCast]; rw [if_pos (by omega), if_pos (by omega)]; done) | (simp only [HW1.out, HW2.out, Int.toNat_natCast]; rw [if_pos (by omega), if_pos (by omega)]; with_reducible rfl) | skip
  simp only [List.setIfInBounds_toArray, List.set_cons_zero, List.set_cons_succ]
  refine hold_take (i := 3) (d := 65) (v := ?vQ3) (listed' := #[true, true, true, true, false, false, false, false, false, false, false, false, false, false]) rfl (by kernel_rfl) (by kernel_rfl) (by kernel_rfl) rfl (by rfl) (by kernel_rfl) S3 ?hQ3 ?rQ3
  case hQ3 =>
    intro w' hSw
    obtain ⟨k0, k1⟩ := hSw
    go_simp
    first | with_reducible rfl | (rw [if_pos (by omega)]; done) | (rw [if_pos (by omega)]; with_reducible rfl) | (rw [if_pos (by omega), if_pos (by omega)]; done) | (rw [if_pos (by omega), if_pos (by omega)]; with_reducible rfl) | (simp only [HW1.out, HW2.out, Int.toNat_natCast]; rw [if_pos (by omega), if_pos (by omega)]; done) | (simp only [HW1.out, HW2.out, Int.toNat_natCast]; rw [if_pos (by omega), if_pos (by omega)]; with_reducible rfl) | skip
  simp only [List.setIfInBounds_toArray, List.set_cons_zero, List.set_cons_succ]
  refine hold_take (i := 4) (d := 66) (v := ?vQ4) (listed' := #[true, true, true, true, true, false, false, false, false, false, false, false, false, false]) rfl (by kernel_rfl) (by kernel_rfl) (by kernel_rfl) rfl (by rfl) (by kernel_rfl) S3 ?hQ4 ?rQ4
  case hQ4 =>
    intro w' hSw
    obtain ⟨k0, k1⟩ := hSw
    go_simp
    first | with_reducible rfl | (rw [if_pos (by omega)]; done) | (rw [if_pos (by omega)]; with_reducible rfl) | (rw [if_pos (by omega), if_pos (by omega)]; done) | (rw [if_pos (by omega), if_pos (by omega)]; with_reducible rfl) | (simp only [HW1.out, HW2.out, Int.toNat_natCast]; rw [if_pos (by omega), if_pos (by omega)]; done) | (simp only [HW1.out, HW2.out, Int.toNat_natCast]; rw [if_pos (by omega), if_pos (by omega)]; with_reducible rfl) | skip
  simp only [List.setIfInBounds_toArray, List.set_cons_zero, List.set_cons_succ]
  refine hold_take (i := 5) (d := 67) (v := ?vQ5) (listed' := #[true, true, true, true, true, true, false, false, false, false, false, false, false, false]) rfl (by kernel_rfl) (by kernel_rfl) (by kernel_rfl) rfl (by rfl) (by kernel_rfl) S3 ?hQ5 ?rQ5
  case hQ5 =>
    intro w' hSw
    obtain ⟨k0, k1⟩ := hSw
    go_simp
    first | with_reducible rfl | (rw [if_pos (by omega)]; done) | (rw [if_pos (by omega)]; with_reducible rfl) | (rw [if_pos (by omega), if_pos (by omega)]; done) | (rw [if_pos (by omega), if_pos (by omega)]; with_reducible rfl) | (simp only [HW1.out, HW2.out, Int.toNat_natCast]; rw [if_pos (by omega), if_pos (by omega)]; done) | (simp only [HW1.out, HW2.out, Int.toNat_natCast]; rw [if_pos (by omega), if_pos (by omega)]; with_reducible rfl) | skip
  simp only [List.setIfInBounds_toArray, List.set_cons_zero, List.set_cons_succ]
  refine hold_take (i := 6) (d := 68) (v := ?vQ6) (listed' := #[true, true, true, true, true, true, true, false, false, false, false, false, false, false]) rfl (by kernel_rfl) (by kernel_rfl) (by kernel_rfl) rfl (by rfl) (by kernel_rfl) S3 ?hQ6 ?rQ6
  case hQ6 =>
    intro w' hSw
    obtain ⟨k0, k1⟩ := hSw
    go_simp
    first | with_reducible rfl | (rw [if_pos (by omega)]; done) | (rw [if_pos (by omega)]; with_reducible rfl) | (rw [if_pos (by omega), if_pos (by omega)]; done) | (rw [if_pos (by omega), if_pos (by omega)]; with_reducible rfl) | (simp only [HW1.out, HW2.out, Int.toNat_natCast]; rw [if_pos (by omega), if_pos (by omega)]; done) | (simp only [HW1.out, HW2.out, Int.toNat_natCast]; rw [if_pos (by omega), if_pos (by omega)]; with_reducible rfl) | skip
  simp only [List.setIfInBounds_toArray, List.set_cons_zero, List.set_cons_succ]
  refine hold_take (i := 7) (d := 69) (v := ?vQ7) (listed' := #[true, true, true, true, true, true, true, true, false, false, false, false, false, false]) rfl (by kernel_rfl) (by kernel_rfl) (by kernel_rfl) rfl (by rfl) (by kernel_rfl) S3 ?hQ7 ?rQ7
  case hQ7 =>
    intro w' hSw
    obtain ⟨k0, k1⟩ := hSw
    go_simp
    first | with_reducible rfl | (rw [if_pos (by omega)]; done) | (rw [if_pos (by omega)]; with_reducible rfl) | (rw [if_pos (by omega), if_pos (by omega)]; done) | (rw [if_pos (by omega), if_pos (by omega)]; with_reducible rfl) | (simp only [HW1.out, HW2.out, Int.toNat_natCast]; rw [if_pos (by omega), if_pos (by omega)]; done) | (simp only [HW1.out, HW2.out, Int.toNat_natCast]; rw [if_pos (by omega), if_pos (by omega)]; with_reducible rfl) | skip
  simp only [List.setIfInBounds_toArray, List.set_cons_zero, List.set_cons_succ]
  refine hold_take (i := 8) (d := 70) (v := ?vQ8) (listed' := #[true, true, true, true, true, true, true, true, true, false, false, false, false, false]) rfl (by kernel_rfl) (by kernel_rfl) (by kernel_rfl) rfl (by rfl) (by kernel_rfl) S3 ?hQ8 ?rQ8
  case hQ8 =>
    intro w' hSw
    obtain ⟨k0, k1⟩ := hSw
    go_simp
    first | with_reducible rfl | (rw [if_pos (by omega)]; done) | (rw [if_pos (by omega)]; with_reducible rfl) | (rw [if_pos (by omega), if_pos (by omega)]; done) | (rw [if_pos (by omega), if_pos (by omega)]; with_reducible rfl) | (simp only [HW1.out, HW2.out, Int.toNat_natCast]; rw [if_pos (by omega), if_pos (by omega)]; done) | (simp only [HW1.out, HW2.out, Int.toNat_natCast]; rw [if_pos (by omega), if_pos (by omega)]; with_reducible rfl) | skip
  simp only [List.setIfInBounds_toArray, List.set_cons_zero, List.set_cons_succ]
  refine hold_take (i := 9) (d := 71) (v := ?vQ9) (listed' := #[true, true, true, true, true, true, true, true, true, true, false, false, false, false]) rfl (by kernel_rfl) (by kernel_rfl) (by kernel_rfl) rfl (by rfl) (by kernel_rfl) S3 ?hQ9 ?rQ9
  case hQ9 =>
    intro w' hSw
    obtain ⟨k0, k1⟩ := hSw
    go_simp
    first | with_reducible rfl | (rw [if_pos (by omega)]; done) | (rw [if_pos (by omega)]; with_reducible rfl) | (rw [if_pos (by omega), if_pos (by omega)]; done) | (rw [if_pos (by omega), if_pos (by omega)]; with_reducible rfl) | (simp only [HW1.out, HW2.out, Int.toNat_natCast]; rw [if_pos (by omega), if_pos (by omega)]; done) | (simp only [HW1.out, HW2.out, Int.toNat_natCast]; rw [if_pos (by omega), if_pos (by omega)]; with_reducible rfl) | skip
  simp only [List.setIfInBounds_toArray, List.set_cons_zero, List.set_cons_succ]
  refine hold_take (i := 10) (d := 72) (v := ?vQ10) (listed' := #[true, true, true, true, true, true, true, true, true, true, true, false, false, false]) rfl (by kernel_rfl) (by kernel_rfl) (by kernel_rfl) rfl (by rfl) (by kernel_rfl) S3 ?hQ10 ?rQ10
  case hQ10 =>
    intro w' hSw
    obtain ⟨k0, k1⟩ := hSw
    go_simp
    first | with_reducible rfl | (rw [if_pos (by omega)]; done) | (rw [if_pos (by omega)]; with_reducible rfl) | (rw [if_pos (by omega), if_pos (by omega)]; done) | (rw [if_pos (by omega), if_pos (by omega)]; with_reducible rfl) | (simp only [HW1.out, HW2.out, Int.toNat_natCast]; rw [if_pos (by omega), if_pos (by omega)]; done) | (simp only [HW1.out, HW2.out, Int.toNat_natCast]; rw [if_pos (by omega), if_pos (by omega)]; with_reducible rfl) | skip
  simp only [List.setIfInBounds_toArray, List.set_cons_zero, List.set_cons_succ]
  refine hold_take (i := 11) (d := 73) (v := ?vQ11) (listed' := #[true, true, true, true, true, true, true, true, true, true, true, true, false, false]) rfl (by kernel_rfl) (by kernel_rfl) (by kernel_rfl) rfl (by rfl) (by kernel_rfl) S3 ?hQ11 ?rQ11
  case hQ11 =>
    intro w' hSw
    obtain ⟨k0, k1⟩ := hSw
    go_simp
    first | with_reducible rfl | (rw [if_pos (by omega)]; done) | (rw [if_pos (by omega)]; with_reducible rfl) | (rw [if_pos (by omega), if_pos (by omega)]; done) | (rw [if_pos (by omega), if_pos (by omega)]; with_reducible rfl) | (simp only [HW1.out, HW2.out, Int.toNat_natCast]; rw [if_pos (by omega), if_pos (by omega)]; done) | (simp only [HW1.out, HW2.out, Int.toNat_natCast]; rw [if_pos (by omega), if_pos (by omega)]; with_reducible rfl) | skip
  simp only [List.setIfInBounds_toArray, List.set_cons_zero, List.set_cons_succ]
  refine hold_call (i := 12) (d := 74) (listed' := #[true, true, true, true, true, true, true, true, true, true, true, true, true, false]) rfl (by kernel_rfl) rfl (by rfl) (by kernel_rfl) ?heQ12 (IHg (nc := nc) _ HD2.out he2 L3.out HO.out ha hb hd) ?hcQ12
  case heQ12 => go_simp
  rintro e x3 ⟨rfl, bb3⟩
  have hX4 := hX3.step bb3
  have L4 := Lib.hid (L3.out.step bb3)
  have S4 : (fun w' => w'.cell? ⟨w.heap.size, 0, none⟩ = some (.slice ua m.n l.cap) ∧ w'.cell? ⟨w.heap.size, 1, none⟩ = some (.slice (some ⟨gg, o, none⟩) m.n nc)) x3 := ⟨hX4.cell 0 rfl, hX4.cell 1 rfl⟩
  clear S3 hX3 L3 bb3
  refine ⟨_, rfl, S4, ?_⟩
  simp only [List.setIfInBounds_toArray, List.set_cons_zero, List.set_cons_succ]
  refine hold_take (i := 13) (d := 15) (v := ?vQ13) (listed' := #[true, true, true, true, true, true, true, true, true, true, true, true, true, true]) rfl (by kernel_rfl) (by kernel_rfl) (by kernel_rfl) rfl (by rfl) (by kernel_rfl) S4 ?hQ13 ?rQ13
  case hQ13 =>
    intro w' hSw
    obtain ⟨k0, k1⟩ := hSw
    go_simp
    first | with_reducible rfl | (rw [if_pos (by omega)]; done) | (rw [if_pos (by omega)]; with_reducible rfl) | (rw [if_pos (by omega), if_pos (by omega)]; done) | (rw [if_pos (by omega), if_pos (by omega)]; with_reducible rfl) | (simp only [HW1.out, HW2.out, Int.toNat_natCast]; rw [if_pos (by omega), if_pos (by omega)]; done) | (simp only [HW1.out, HW2.out, Int.toNat_natCast]; rw [if_pos (by omega), if_pos (by omega)]; with_reducible rfl) | skip
  simp only [List.setIfInBounds_toArray, List.set_cons_zero, List.set_cons_succ]
  refine hold_done (by kernel_rfl) ?_ _
  have q0 := hX4.cell 0 rfl
  have HME := Lib.hid (HO.out.mI (HLT.out f) (HLT.out g))
  have vf1 := HLT.out f
  have vg1 := HLT.out g
  go_wp2_with fail
  go_at_call 26
  refine (l1Meet_any L4.out.mat HO.out.lat.order vf1 vg1).mono ?_
  rintro e w2 ⟨rfl, rfl⟩
  rw [HME.out]
  go_wp2_with fail
  go_returns
  exact ⟨rfl, hX4.below⟩
set_option maxRecDepth 100000 in
set_option maxHeartbeats 4000000 in
theorem sv_join {f g : Fm} (IHf : SvC f) (IHg : SvC g) : SvC (.join f g) := by
  intro w B ua l m gg o nc z y n0 a b d s hs hsz h hO ha hb hd
  have hX := BoxN.start w #[.slice ua m.n l.cap, .slice (some ⟨gg, o, none⟩) m.n nc] 26
  have BX := hX.below
  have q0 := hX.cell 0 rfl
  have q1 := hX.cell 1 rfl
  have HL := Lib.hid (h.step BX)
  have HO := Lib.hid hO
  have hn0 := hO.ho
  have hn12 := hO.lat.order.top
  have hn0' : (n0 : Int) < m.n := by omega
  have hltv := hO.val_lt ha hb hd
  clear h hO
  have hs' : s.data.toList = 40 :: (f.text ++ 124 :: (g.text ++ [41])) := hs
  obtain ⟨-, ⟨h0, hc⟩, -, -, -⟩ := ba_cons hs'
  have hlen : s.size = f.text.length + g.text.length + 3 := by rw [size_data, hs']; simp; omega
  obtain ⟨M, hM⟩ : ∃ M, 1 + f.text.length = M := ⟨_, rfl⟩
  have HE : Hid (endF s.data.toList 1 = (M : Int)) := by
    show _ = _
    rw [← hM]
    exact end_some (r := 124 :: (g.text ++ [41])) (by rw [hs']; exact headF_text f _)
  have hdM : s.data.toList.drop M = 124 :: (g.text ++ [41]) := by rw [hs', ← hM, Nat.add_comm, List.drop_succ_cons, List.drop_left]
  have hMs : M < s.size := by omega
  have hMs' : (M : Int) < s.size := by omega
  have hM1 : 1 ≤ M := by omega
  have hM60 : (M : Int) ≤ 60 := by omega
  have hcM : s[M] = 124 := by
    have e1 := at_data hMs
    have e2 := congrArg List.head? hdM
    rw [List.head?_drop, e1] at e2
    exact Option.some.inj e2
  have hd1 : (s.extract 1 M).data.toList = f.text := by rw [ext_data, hs', ← hM, Nat.add_sub_cancel_left]; exact List.take_left
  have hd2 : (s.extract (M + 1) (s.size - 1)).data.toList = g.text := by
    rw [ext_data, ← List.drop_drop, hdM, List.drop_succ_cons, List.drop_zero]
    rw [show s.size - 1 - (M + 1) = g.text.length by omega]
    exact List.take_left
  have he1 : (s.extract 1 M).size ≤ 60 := by rw [size_data, hd1]; omega
  have he2 : (s.extract (M + 1) (s.size - 1)).size ≤ 60 := by rw [size_data, hd2]; omega
  have HD1 := Lib.hid hd1
  have HW1 : Hid (IntKind.i64.wrap ((M : Int) + 1) = ((M + 1 : Nat) : Int)) := by show _ = _; simp (disch := omega) only [IntWalk.i64_in]; omega
  have HW2 : Hid (IntKind.i64.wrap ((s.size : Int) - 1) = ((s.size - 1 : Nat) : Int)) := by show _ = _; simp (disch := omega) only [IntWalk.i64_in]; omega
  have HD2 := Lib.hid hd2
  have HLT := Lib.hid hltv
  have hM2 : (M : Int) + 1 ≤ (s.size : Int) - 1 := by omega
  have hs1 : (1 : Int) ≤ s.size := by omega
  have hs60 : (s.size : Int) ≤ 60 := by omega
  clear hs hs' hltv hdM hd1 hd2 hlen hM
  go_enter Try.func22, Try.ntmps22
  go_wp2_with fail
  go_at_call 44
  refine (l10End_any s 1 1 rfl (by omega) _).mono ?_
  rintro e w1 ⟨rfl, rfl⟩
  rw [HE.out]
  go_wp2_with fail
  generalize w.alloc (.cells #[.slice ua m.n l.cap, .slice (some ⟨gg, o, none⟩) m.n nc] 26) = W at hX HL BX q0 q1 ⊢
  have hX1 := hX.step (Below.refl _ W).drew
  have L1 := Lib.hid (HL.out.step (Below.refl _ W).drew)
  clear hX HL q0 q1
  have S1 : (fun w' => w'.cell? ⟨w.heap.size, 0, none⟩ = some (.slice ua m.n l.cap) ∧ w'.cell? ⟨w.heap.size, 1, none⟩ = some (.slice (some ⟨gg, o, none⟩) m.n nc)) W.drew := ⟨hX1.cell 0 rfl, hX1.cell 1 rfl⟩
  refine region_plain (fuel := 10) (listed := #[false, false, false, false, false, false, false, false, false, false]) (fun w' => w'.cell? ⟨w.heap.size, 0, none⟩ = some (.slice ua m.n l.cap) ∧ w'.cell? ⟨w.heap.size, 1, none⟩ = some (.slice (some ⟨gg, o, none⟩) m.n nc)) (by kernel_rfl) (by kernel_rfl) (by kernel_rfl) ?_
  refine hold_take (i := 0) (d := 53) (v := ?vP0) (listed' := #[true, false, false, false, false, false, false, false, false, false]) rfl (by kernel_rfl) (by kernel_rfl) (by kernel_rfl) rfl (by rfl) (by kernel_rfl) S1 ?hP0 ?rP0
  case hP0 =>
    intro w' hSw
    obtain ⟨k0, k1⟩ := hSw
    go_simp
    first | with_reducible rfl | (rw [if_pos (by omega)]; done) | (rw [if_pos (by omega)]; with_reducible rfl) | (rw [if_pos (by omega), if_pos (by omega)]; done) | (rw [if_pos (by omega), if_pos (by omega)]; with_reducible rfl) | (simp only [HW1.out, HW2.out, Int.toNat_natCast]; rw [if_pos (by omega), if_pos (by omega)]; done) | (simp only [HW1.out, HW2.out, Int.toNat_natCast]; rw [if_pos (by omega), if_pos (by omega)]; with_reducible rfl) | skip
  simp only [List.setIfInBounds_toArray, List.set_cons_zero, List.set_cons_succ]
  refine hold_take (i := 1) (d := 54) (v := ?vP1) (listed' := #[true, true, false, false, false, false, false, false, false, false]) rfl (by kernel_rfl) (by kernel_rfl) (by kernel_rfl) rfl (by rfl) (by kernel_rfl) S1 ?hP1 ?rP1
  case hP1 =>
    intro w' hSw
    obtain ⟨k0, k1⟩ := hSw
    go_simp
    first | with_reducible rfl | (rw [if_pos (by omega)]; done) | (rw [if_pos (by omega)]; with_reducible rfl) | (rw [if_pos (by omega), if_pos (by omega)]; done) | (rw [if_pos (by omega), if_pos (by omega)]; with_reducible rfl) | (simp only [HW1.out, HW2.out, Int.toNat_natCast]; rw [if_pos (by omega), if_pos (by omega)]; done) | (simp only [HW1.out, HW2.out, Int.toNat_natCast]; rw [if_pos (by omega), if_pos (by omega)]; with_reducible rfl) | skip
  simp only [List.setIfInBounds_toArray, List.set_cons_zero, List.set_cons_succ]
  refine hold_take (i := 2) (d := 55) (v := ?vP2) (listed' := #[true, true, true, false, false, false, false, false, false, false]) rfl (by kernel_rfl) (by kernel_rfl) (by kernel_rfl) rfl (by rfl) (by kernel_rfl) S1 ?hP2 ?rP2
  case hP2 =>
    intro w' hSw
    obtain ⟨k0, k1⟩ := hSw
    go_simp
    first | with_reducible rfl | (rw [if_pos (by omega)]; done) | (rw [if_pos (by omega)]; with_reducible rfl) | (rw [if_pos (by omega), if_pos (by omega)]; done) | (rw [if_pos (by omega), if_pos (by omega)]; with_reducible rfl) | (simp only [HW1.out, HW2.out, Int.toNat_natCast]; rw [if_pos (by omega), if_pos (by omega)]; done) | (simp only [HW1.out, HW2.out, Int.toNat_natCast]; rw [if_pos (by omega), if_pos (by omega)]; with_reducible rfl) | skip
  simp only [List.setIfInBounds_toArray, List.set_cons_zero, List.set_cons_succ]
  refine hold_take (i := 3) (d := 56) (v := ?vP3) (listed' := #[true, true, true, true, false, false, false, false, false, false]) rfl (by kernel_rfl) (by kernel_rfl) (by kernel_rfl) rfl (by rfl) (by kernel_rfl) S1 ?hP3 ?rP3
  case hP3 =>
    intro w' hSw
    obtain ⟨k0, k1⟩ := hSw
    go_simp
    first | with_reducible rfl | (rw [if_pos (by omega)]; done) | (rw [if_pos (by omega)]; with_reducible rfl) | (rw [if_pos (by omega), if_pos (by omega)]; done) | (rw [if_pos (by omega), if_pos (by omega)]; with_reducible rfl) | (simp only [HW1.out, HW2.out, Int.toNat_natCast]; rw [if_pos (by omega), if_pos (by omega)]; done) | (simp only [HW1.out, HW2.out, Int.toNat_natCast]; rw [if_pos (by omega), if_pos (by omega)]; with_reducible rfl) | skip
  simp only [List.setIfInBounds_toArray, List.set_cons_zero, List.set_cons_succ]
  refine hold_take (i := 4) (d := 57) (v := ?vP4) (listed' := #[true, true, true, true, true, false, false, false, false, false]) rfl (by kernel_rfl) (by kernel_rfl) (by kernel_rfl) rfl (by rfl) (by kernel_rfl) S1 ?hP4 ?rP4
  case hP4 =>
    intro w' hSw
    obtain ⟨k0, k1⟩ := hSw
    go_simp
    first | with_reducible rfl | (rw [if_pos (by omega)]; done) | (rw [if_pos (by omega)]; with_reducible rfl) | (rw [if_pos (by omega), if_pos (by omega)]; done) | (rw [if_pos (by omega), if_pos (by omega)]; with_reducible rfl) | (simp only [HW1.out, HW2.out, Int.toNat_natCast]; rw [if_pos (by omega), if_pos (by omega)]; done) | (simp only [HW1.out, HW2.out, Int.toNat_natCast]; rw [if_pos (by omega), if_pos (by omega)]; with_reducible rfl) | skip
  simp only [List.setIfInBounds_toArray, List.set_cons_zero, List.set_cons_succ]
  refine hold_take (i := 5) (d := 58) (v := ?vP5) (listed' := #[true, true, true, true, true, true, false, false, false, false]) rfl (by kernel_rfl) (by kernel_rfl) (by kernel_rfl) rfl (by rfl) (by kernel_rfl) S1 ?hP5 ?rP5
  case hP5 =>
    intro w' hSw
    obtain ⟨k0, k1⟩ := hSw
    go_simp
    first | with_reducible rfl | (rw [if_pos (by omega)]; done) | (rw [if_pos (by omega)]; with_reducible rfl) | (rw [if_pos (by omega), if_pos (by omega)]; done) | (rw [if_pos (by omega), if_pos (by omega)]; with_reducible rfl) | (simp only [HW1.out, HW2.out, Int.toNat_natCast]; rw [if_pos (by omega), if_pos (by omega)]; done) | (simp only [HW1.out, HW2.out, Int.toNat_natCast]; rw [if_pos (by omega), if_pos (by omega)]; with_reducible rfl) | skip
  simp only [List.setIfInBounds_toArray, List.set_cons_zero, List.set_cons_succ]
  refine hold_take (i := 6) (d := 59) (v := ?vP6) (listed' := #[true, true, true, true, true, true, true, false, false, false]) rfl (by kernel_rfl) (by kernel_rfl) (by kernel_rfl) rfl (by rfl) (by kernel_rfl) S1 ?hP6 ?rP6
  case hP6 =>
    intro w' hSw
    obtain ⟨k0, k1⟩ := hSw
    go_simp
    first | with_reducible rfl | (rw [if_pos (by omega)]; done) | (rw [if_pos (by omega)]; with_reducible rfl) | (rw [if_pos (by omega), if_pos (by omega)]; done) | (rw [if_pos (by omega), if_pos (by omega)]; with_reducible rfl) | (simp only [HW1.out, HW2.out, Int.toNat_natCast]; rw [if_pos (by omega), if_pos (by omega)]; done) | (simp only [HW1.out, HW2.out, Int.toNat_natCast]; rw [if_pos (by omega), if_pos (by omega)]; with_reducible rfl) | skip
  simp only [List.setIfInBounds_toArray, List.set_cons_zero, List.set_cons_succ]
  refine hold_take (i := 7) (d := 60) (v := ?vP7) (listed' := #[true, true, true, true, true, true, true, true, false, false]) rfl (by kernel_rfl) (by kernel_rfl) (by kernel_rfl) rfl (by rfl) (by kernel_rfl) S1 ?hP7 ?rP7
  case hP7 =>
    intro w' hSw
    obtain ⟨k0, k1⟩ := hSw
    go_simp
    first | with_reducible rfl | (rw [if_pos (by omega)]; done) | (rw [if_pos (by omega)]; with_reducible rfl) | (rw [if_pos (by omega), if_pos (by omega)]; done) | (rw [if_pos (by omega), if_pos (by omega)]; with_reducible rfl) | (simp only [HW1.out, HW2.out, Int.toNat_natCast]; rw [if_pos (by omega), if_pos (by omega)]; done) | (simp only [HW1.out, HW2.out, Int.toNat_natCast]; rw [if_pos (by omega), if_pos (by omega)]; with_reducible rfl) | skip
  simp only [List.setIfInBounds_toArray, List.set_cons_zero, List.set_cons_succ]
  refine hold_call (i := 8) (d := 61) (listed' := #[true, true, true, true, true, true, true, true, true, false]) rfl (by kernel_rfl) rfl (by rfl) (by kernel_rfl) ?heP8 (IHf (nc := nc) _ HD1.out he1 L1.out HO.out ha hb hd) ?hcP8
  case heP8 => go_simp
  rintro e x1 ⟨rfl, bb1⟩
  have hX2 := hX1.step bb1
  have L2 := Lib.hid (L1.out.step bb1)
  have S2 : (fun w' => w'.cell? ⟨w.heap.size, 0, none⟩ = some (.slice ua m.n l.cap) ∧ w'.cell? ⟨w.heap.size, 1, none⟩ = some (.slice (some ⟨gg, o, none⟩) m.n nc)) x1 := ⟨hX2.cell 0 rfl, hX2.cell 1 rfl⟩
  clear S1 hX1 L1 bb1
  refine ⟨_, rfl, S2, ?_⟩
  simp only [List.setIfInBounds_toArray, List.set_cons_zero, List.set_cons_succ]
  refine hold_take (i := 9) (d := 14) (v := ?vP9) (listed' := #[true, true, true, true, true, true, true, true, true, true]) rfl (by kernel_rfl) (by kernel_rfl) (by kernel_rfl) rfl (by rfl) (by kernel_rfl) S2 ?hP9 ?rP9
  case hP9 =>
    intro w' hSw
    obtain ⟨k0, k1⟩ := hSw
    go_simp
    first | with_reducible rfl | (rw [if_pos (by omega)]; done) | (rw [if_pos (by omega)]; with_reducible rfl) | (rw [if_pos (by omega), if_pos (by omega)]; done) | (rw [if_pos (by omega), if_pos (by omega)]; with_reducible rfl) | (simp only [HW1.out, HW2.out, Int.toNat_natCast]; rw [if_pos (by omega), if_pos (by omega)]; done) | (simp only [HW1.out, HW2.out, Int.toNat_natCast]; rw [if_pos (by omega), if_pos (by omega)]; with_reducible rfl) | skip
  simp only [List.setIfInBounds_toArray, List.set_cons_zero, List.set_cons_succ]
  refine hold_done (by kernel_rfl) ?_ _
  go_wp2_with fail
  have hX3 := hX2.step (Below.refl _ x1).drew
  have L3 := Lib.hid (L2.out.step (Below.refl _ x1).drew)
  have S3 : (fun w' => w'.cell? ⟨w.heap.size, 0, none⟩ = some (.slice ua m.n l.cap) ∧ w'.cell? ⟨w.heap.size, 1, none⟩ = some (.slice (some ⟨gg, o, none⟩) m.n nc)) x1.drew := ⟨hX3.cell 0 rfl, hX3.cell 1 rfl⟩
  clear hX2 L2 S2
  refine region_plain (fuel := 14) (listed := #[false, false, false, false, false, false, false, false, false, false, false, false, false, false]) (fun w' => w'.cell? ⟨w.heap.size, 0, none⟩ = some (.slice ua m.n l.cap) ∧ w'.cell? ⟨w.heap.size, 1, none⟩ = some (.slice (some ⟨gg, o, none⟩) m.n nc)) (by kernel_rfl) (by kernel_rfl) (by kernel_rfl) ?_
  refine hold_take (i := 0) (d := 62) (v := ?vQ0) (listed' := #[true, false, false, false, false, false, false, false, false, false, false, false, false, false]) rfl (by kernel_rfl) (by kernel_rfl) (by kernel_rfl) rfl (by rfl) (by kernel_rfl) S3 ?hQ0 ?rQ0
  case hQ0 =>
    intro w' hSw
    obtain ⟨k0, k1⟩ := hSw
    go_simp
    first | with_reducible rfl | (rw [if_pos (by omega)]; done) | (rw [if_pos (by omega)]; with_reducible rfl) | (rw [if_pos (by omega), if_pos (by omega)]; done) | (rw [if_pos (by omega), if_pos (by omega)]; with_reducible rfl) | (simp only [HW1.out, HW2.out, Int.toNat_natCast]; rw [if_pos (by omega), if_pos (by omega)]; done) | (simp only [HW1.out, HW2.out, Int.toNat_natCast]; rw [if_pos (by omega), if_pos (by omega)]; with_reducible rfl) | skip
  simp only [List.setIfInBounds_toArray, List.set_cons_zero, List.set_cons_succ]
  refine hold_take (i := 1) (d := 63) (v := ?vQ1) (listed' := #[true, true, false, false, false, false, false, false, false, false, false, false, false, false]) rfl (by kernel_rfl) (by kernel_rfl) (by kernel_rfl) rfl (by rfl) (by kernel_rfl) S3 ?hQ1 ?rQ1
  case hQ1 =>
    intro w' hSw
    obtain ⟨k0, k1⟩ := hSw
    go_simp
    first | with_reducible rfl | (rw [if_pos (by omega)]; done) | (rw [if_pos (by omega)]; with_reducible rfl) | (rw [if_pos (by omega), if_pos (by omega)]; done) | (rw [if_pos (by omega), if_pos (by omega)]; with_reducible rfl) | (simp only [HW1.out, HW2.out, Int.toNat_natCast]; rw [if_pos (by omega), if_pos (by omega)]; done) | (simp only [HW1.out, HW2.out, Int.toNat_natCast]; rw [if_pos (by omega), if_pos (by omega)]; with_reducible rfl) | skip
  simp only [List.setIfInBounds_toArray, List.set_cons_zero, List.set_cons_succ]
  refine hold_take (i := 2) (d := 64) (v := ?vQ2) (listed' := #[true, true, true, false, false, false, false, false, false, false, false, false, false, false]) rfl (by kernel_rfl) (by kernel_rfl) (by kernel_rfl) rfl (by rfl) (by kernel_rfl) S3 ?hQ2 ?rQ2
  case hQ2 =>
    intro w' hSw
    obtain ⟨k0, k1⟩ := hSw
    go_simp
    first | with_reducible rfl | (rw [if_pos (by omega)]; done) | (rw [if_pos (by omega)]; with_reducible rfl) | (rw [if_pos (by omega), if_pos (by omega)]; done) | (rw [if_pos (by omega), if_pos (by omega)]; with_reducible rfl) | (simp only [HW1.out, HW2.out, Int.toNat_natCast]; rw [if_pos (by omega), if_pos (by omega)]; done) | (simp only [HW1.out, HW2.out, Int.toNat_natCast]; rw [if_pos (by omega), if_pos (by omega)]; with_reducible rfl) | skip
  simp only [List.setIfInBounds_toArray, List.set_cons_zero, List.set_cons_succ]
  refine hold_take (i := 3) (d := 65) (v := ?vQ3) (listed' := #[true, true, true, true, false, false, false, false, false, false, false, false, false, false]) rfl (by kernel_rfl) (by kernel_rfl) (by kernel_rfl) rfl (by rfl) (by kernel_rfl) S3 ?hQ3 ?rQ3
  case hQ3 =>
    intro w' hSw
    obtain ⟨k0, k1⟩ := hSw
    go_simp
    first | with_reducible rfl | (rw [if_pos (by omega)]; done) | (rw [if_pos (by omega)]; with_reducible rfl) | (rw [if_pos (by omega), if_pos (by omega)]; done) | (rw [if_pos (by omega), if_pos (by omega)]; with_reducible rfl) | (simp only [HW1.out, HW2.out, Int.toNat_natCast]; rw [if_pos (by omega), if_pos (by omega)]; done) | (simp only [HW1.out, HW2.out, Int.toNat_natCast]; rw [if_pos (by omega), if_pos (by omega)]; with_reducible rfl) | skip
  simp only [List.setIfInBounds_toArray, List.set_cons_zero, List.set_cons_succ]
  refine hold_take (i := 4) (d := 66) (v := ?vQ4) (listed' := #[true, true, true, true, true, false, false, false, false, false, false, false, false, false]) rfl (by kernel_rfl) (by kernel_rfl) (by kernel_rfl) rfl (by rfl) (by kernel_rfl) S3 ?hQ4 ?rQ4
  case hQ4 =>
    intro w' hSw
    obtain ⟨k0, k1⟩ := hSw
    go_simp
    first | with_reducible rfl | (rw [if_pos (by omega)]; done) | (rw [if_pos (by omega)]; with_reducible rfl) | (rw [if_pos (by omega), if_pos (by omega)]; done) | (rw [if_pos (by omega), if_pos (by omega)]; with_reducible rfl) | (simp only [HW1.out, HW2.out, Int.toNat_natCast]; rw [if_pos (by omega), if_pos (by omega)]; done) | (simp only [HW1.out, HW2.out, Int.toNat_natCast]; rw [if_pos (by omega), if_pos (by omega)]; with_reducible rfl) | skip
  simp only [List.setIfInBounds_toArray, List.set_cons_zero, List.set_cons_succ]
  refine hold_take (i := 5) (d := 67) (v := ?vQ5) (listed' := #[true, true, true, true, true, true, false, false, false, false, false, false, false, false]) rfl (by kernel_rfl) (by kernel_rfl) (by kernel_rfl) rfl (by rfl) (by kernel_rfl) S3 ?hQ5 ?rQ5
  case hQ5 =>
    intro w' hSw
    obtain ⟨k0, k1⟩ := hSw
    go_simp
    first | with_reducible rfl | (rw [if_pos (by omega)]; done) | (rw [if_pos (by omega)]; with_reducible rfl) | (rw [if_pos (by omega), if_pos (by omega)]; done) | (rw [if_pos (by omega), if_pos (by omega)]; with_reducible rfl) | (simp only [HW1.out, HW2.out, Int.toNat_natCast]; rw [if_pos (by omega), if_pos (by omega)]; done) | (simp only [HW1.out, HW2.out, Int.toNat_natCast]; rw [if_pos (by omega), if_pos (by omega)]; with_reducible rfl) | skip
  simp only [List.setIfInBounds_toArray, List.set_cons_zero, List.set_cons_succ]
  refine hold_take (i := 6) (d := 68) (v := ?vQ6) (listed' := #[true, true, true, true, true, true, true, false, false, false, false, false, false, false]) rfl (by kernel_rfl) (by kernel_rfl) (by kernel_rfl) rfl (by rfl) (by kernel_rfl) S3 ?hQ6 ?rQ6
  case hQ6 =>
    intro w' hSw
    obtain ⟨k0, k1⟩ := hSw
    go_simp
    first | with_reducible rfl | (rw [if_pos (by omega)]; done) | (rw [if_pos (by omega)]; with_reducible rfl) | (rw [if_pos (by omega), if_pos (by omega)]; done) | (rw [if_pos (by omega), if_pos (by omega)]; with_reducible rfl) | (simp only [HW1.out, HW2.out, Int.toNat_natCast]; rw [if_pos (by omega), if_pos (by omega)]; done) | (simp only [HW1.out, HW2.out, Int.toNat_natCast]; rw [if_pos (by omega), if_pos (by omega)]; with_reducible rfl) | skip
  simp only [List.setIfInBounds_toArray, List.set_cons_zero, List.set_cons_succ]
  refine hold_take (i := 7) (d := 69) (v := ?vQ7) (listed' := #[true, true, true, true, true, true, true, true, false, false, false, false, false, false]) rfl (by kernel_rfl) (by kernel_rfl) (by kernel_rfl) rfl (by rfl) (by kernel_rfl) S3 ?hQ7 ?rQ7
  case hQ7 =>
    intro w' hSw
    obtain ⟨k0, k1⟩ := hSw
    go_simp
    first | with_reducible rfl | (rw [if_pos (by omega)]; done) | (rw [if_pos (by omega)]; with_reducible rfl) | (rw [if_pos (by omega), if_pos (by omega)]; done) | (rw [if_pos (by omega), if_pos (by omega)]; with_reducible rfl) | (simp only [HW1.out, HW2.out, Int.toNat_natCast]; rw [if_pos (by omega), if_pos (by omega)]; done) | (simp only [HW1.out, HW2.out, Int.toNat_natCast]; rw [if_pos (by omega), if_pos (by omega)]; with_reducible rfl) | skip
  simp only [List.setIfInBounds_toArray, List.set_cons_zero, List.set_cons_succ]
  refine hold_take (i := 8) (d := 70) (v := ?vQ8) (listed' := #[true, true, true, true, true, true, true, true, true, false, false, false, false, false]) rfl (by kernel_rfl) (by kernel_rfl) (by kernel_rfl) rfl (by rfl) (by kernel_rfl) S3 ?hQ8 ?rQ8
  case hQ8 =>
    intro w' hSw
    obtain ⟨k0, k1⟩ := hSw
    go_simp
    first | with_reducible rfl | (rw [if_pos (by omega)]; done) | (rw [if_pos (by omega)]; with_reducible rfl) | (rw [if_pos (by omega), if_pos (by omega)]; done) | (rw [if_pos (by omega), if_pos (by omega)]; with_reducible rfl) | (simp only [HW1.out, HW2.out, Int.toNat_natCast]; rw [if_pos (by omega), if_pos (by omega)]; done) | (simp only [HW1.out, HW2.out, Int.toNat_natCast]; rw [if_pos (by omega), if_pos (by omega)]; with_reducible rfl) | skip
  simp only [List.setIfInBounds_toArray, List.set_cons_zero, List.set_cons_succ]
  refine hold_take (i := 9) (d := 71) (v := ?vQ9) (listed' := #[true, true, true, true, true, true, true, true, true, true, false, false, false, false]) rfl (by kernel_rfl) (by kernel_rfl) (by kernel_rfl) rfl (by rfl) (by kernel_rfl) S3 ?hQ9 ?rQ9
  case hQ9 =>
    intro w' hSw
    obtain ⟨k0, k1⟩ := hSw
    go_simp
    first | with_reducible rfl | (rw [if_pos (by omega)]; done) | (rw [if_pos (by omega)]; with_reducible rfl) | (rw [if_pos (by omega), if_pos (by omega)]; done) | (rw [if_pos (by omega), if_pos (by omega)]; with_reducible rfl) | (simp only [HW1.out, HW2.out, Int.toNat_natCast]; rw [if_pos (by omega), if_pos (by omega)]; done) | (simp only [HW1.out, HW2.out, Int.toNat_natCast]; rw [if_pos (by omega), if_pos (by omega)]; with_reducible rfl) | skip
  simp only [List.setIfInBounds_toArray, List.set_cons_zero, List.set_cons_succ]
  refine hold_take (i := 10) (d := 72) (v := ?vQ10) (listed' := #[true, true, true, true, true, true, true, true, true, true, true, false, false, false]) rfl (by kernel_rfl) (by kernel_rfl) (by kernel_rfl) rfl (by rfl) (by kernel_rfl) S3 ?hQ10 ?rQ10
  case hQ10 =>
    intro w' hSw
    obtain ⟨k0, k1⟩ := hSw
    go_simp
    first | with_reducible rfl | (rw [if_pos (by omega)]; done) | (rw [if_pos (by omega)]; with_reducible rfl) | (rw [if_pos (by omega), if_pos (by omega)]; done) | (rw [if_pos (by omega), if_pos (by omega)]; with_reducible rfl) | (simp only [HW1.out, HW2.out, Int.toNat_natCast]; rw [if_pos (by omega), if_pos (by omega)]; done) | (simp only [HW1.out, HW2.out, Int.toNat_natCast]; rw [if_pos (by omega), if_pos (by omega)]; with_reducible rfl) | skip
  simp only [List.setIfInBounds_toArray, List.set_cons_zero, List.set_cons_succ]
  refine hold_take (i := 11) (d := 73) (v := ?vQ11) (listed' := #[true, true, true, true, true, true, true, true, true, true, true, true, false, false]) rfl (by kernel_rfl) (by kernel_rfl) (by kernel_rfl) rfl (by rfl) (by kernel_rfl) S3 ?hQ11 ?rQ11
  case hQ11 =>
    intro w' hSw
    obtain ⟨k0, k1⟩ := hSw
    go_simp
    first | with_reducible rfl | (rw [if_pos (by omega)]; done) | (rw [if_pos (by omega)]; with_reducible rfl) | (rw [if_pos (by omega), if_pos (by omega)]; done) | (rw [if_pos (by omega), if_pos (by omega)]; with_reducible rfl) | (simp only [HW1.out, HW2.out, Int.toNat_natCast]; rw [if_pos (by omega), if_pos (by omega)]; done) | (simp only [HW1.out, HW2.out, Int.toNat_natCast]; rw [if_pos (by omega), if_pos (by omega)]; with_reducible rfl) | skip
  simp only [List.setIfInBounds_toArray, List.set_cons_zero, List.set_cons_succ]
  refine hold_call (i := 12) (d := 74) (listed' := #[true, true, true, true, true, true, true, true, true, true, true, true, true, false]) rfl (by kernel_rfl) rfl (by rfl) (by kernel_rfl) ?heQ12 (IHg (nc := nc) _ HD2.out he2 L3.out HO.out ha hb hd) ?hcQ12
  case heQ12 => go_simp
  rintro e x3 ⟨rfl, bb3⟩
  have hX4 := hX3.step bb3
  have L4 := Lib.hid (L3.out.step bb3)
  have S4 : (fun w' => w'.cell? ⟨w.heap.size, 0, none⟩ = some (.slice ua m.n l.cap) ∧ w'.cell? ⟨w.heap.size, 1, none⟩ = some (.slice (some ⟨gg, o, none⟩) m.n nc)) x3 := ⟨hX4.cell 0 rfl, hX4.cell 1 rfl⟩
  clear S3 hX3 L3 bb3
  refine ⟨_, rfl, S4, ?_⟩
  simp only [List.setIfInBounds_toArray, List.set_cons_zero, List.set_cons_succ]
  refine hold_take (i := 13) (d := 15) (v := ?vQ13) (listed' := #[true, true, true, true, true, true, true, true, true, true, true, true, true, true]) rfl (by kernel_rfl) (by kernel_rfl) (by kernel_rfl) rfl (by rfl) (by kernel_rfl) S4 ?hQ13 ?rQ13
  case hQ13 =>
    intro w' hSw
    obtain ⟨k0, k1⟩ := hSw
    go_simp
    first | with_reducible rfl | (rw [if_pos (by omega)]; done) | (rw [if_pos (by omega)]; with_reducible rfl) | (rw [if_pos (by omega), if_pos (by omega)]; done) | (rw [if_pos (by omega), if_pos (by omega)]; with_reducible rfl) | (simp only [HW1.out, HW2.out, Int.toNat_natCast]; rw [if_pos (by omega), if_pos (by omega)]; done) | (simp only [HW1.out, HW2.out, Int.toNat_natCast]; rw [if_pos (by omega), if_pos (by omega)]; with_reducible rfl) | skip
  simp only [List.setIfInBounds_toArray, List.set_cons_zero, List.set_cons_succ]
  refine hold_done (by kernel_rfl) ?_ _
  have q0 := hX4.cell 0 rfl
  have HME := Lib.hid (HO.out.jI (HLT.out f) (HLT.out g))
  have vf1 := HLT.out f
  have vg1 := HLT.out g
  go_wp2_with fail
  go_at_call 45
  refine (l1Join_any L4.out.mat HO.out.lat.order vf1 vg1).mono ?_
  rintro e w2 ⟨rfl, rfl⟩
  rw [HME.out]
  go_wp2_with fail
  go_returns
  exact ⟨rfl, hX4.below⟩
theorem sv_all : ∀ f, SvC f
  | .la => sv_la
  | .lb => sv_lb
  | .lc => sv_lc
  | .no => sv_no
  | .yes => sv_yes
  | .neg f => sv_neg (sv_all f)
  | .meet f g => sv_meet (sv_all f) (sv_all g)
  | .join f g => sv_join (sv_all f) (sv_all g)

end Go.Proofs.Ytmchgclaeipoeaa
