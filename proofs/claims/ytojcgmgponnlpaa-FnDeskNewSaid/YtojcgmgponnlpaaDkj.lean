/- The laws' comparisons of desks. -/
import Derived.Test.YtojcgmgponnlpaaDkh
import Derived.Test.YtojcgmgponnlpaaDkf
import Derived.Test.YtojcgmgponnlpaaIa
namespace Go.Proofs.Ytojcgmgponnlpaa
open Go.RowKit Go.Deep Go.Joins

set_option maxRecDepth 100000 in
set_option maxHeartbeats 4000000 in
theorem sameDesk_any {w : World} {B B' : Nat} {v v' : Value} {D : Dk Lc} (h : DeskAt w B v D) (h' : DeskAt w B' v' D) :
    Calls Try.prog 14 #[v, v'] w fun e w' => e = .returned (.bool true) ∧ Below w.heap.size w w' := by
  obtain ⟨ua, l, na, g0, o0, nc, pa, g, o, pc, rfl, hL, hP, hn63⟩ := h
  obtain ⟨ua', l', na', g0', o0', nc', pa', g', o', pc', rfl, hL', hP', _⟩ := h'
  obtain ⟨n, hn⟩ : ∃ n, D.past.length = n := ⟨_, rfl⟩
  have HN := Lib.hid hn
  rw [hn] at hn63 ⊢
  have X := BoxN.start w #[.slice ua D.now.m.n l.cap, .slice na D.now.k nc, .slice pa n pc] 29
  have Y := BoxN.start (w.alloc (.cells #[.slice ua D.now.m.n l.cap, .slice na D.now.k nc, .slice pa n pc] 29)) #[.slice ua' D.now.m.n l'.cap, .slice na' D.now.k nc', .slice pa' n pc'] 29
  have X2 := X.step Y.below
  have b0 := X2.below
  have hBw := hL.hB
  have hBw' := hL'.hB
  have HL := Lib.hid (hL.step b0)
  have HP := Lib.hid (hP.step b0 hBw)
  have HL' := Lib.hid (hL'.step b0)
  have HP' := Lib.hid (hP'.step b0 hBw')
  have q2 := X2.cell 2 rfl
  have y2 := Y.cell 2 rfl
  rw [World.size_alloc] at y2
  have hXW := X2.size
  have hYW := Y.size
  rw [World.size_alloc] at hYW
  clear hL hP hL' hP' hn X
  go_enter Try.func14, Try.ntmps14
  go_wp2_with fail
  generalize (w.alloc (.cells #[.slice ua D.now.m.n l.cap, .slice na D.now.k nc, .slice pa n pc] 29)).alloc (.cells #[.slice ua' D.now.m.n l'.cap, .slice na' D.now.k nc', .slice pa' n pc'] 29) = W at X2 Y b0 HL HP HL' HP' q2 y2 hXW hYW ⊢
  go_loopw [5] (fun i wr => ∃ k : Nat, k ≤ n ∧ i = .int .i64 (k : Int) ∧ Below W.heap.size W wr) (fun i _ => n - (RowKit.intOf i).toNat)
  case atStart => exact ⟨0, Nat.zero_le _, rfl, Below.refl _ _⟩
  case round =>
    obtain ⟨k, hk, rfl, hB1⟩ := hrel
    have hz1 := hB1.size
    have X3 := X2.step hB1
    have Y3 := Y.step hB1
    have r2 := X3.cell 2 rfl
    have s2 := Y3.cell 2 rfl
    rw [World.size_alloc] at s2
    by_cases hlt : k < n
    · have hlt' : (k : Int) < n := by omega
      have hk0 : (0 : Int) ≤ k := by omega
      obtain ⟨c, hc⟩ : ∃ c, D.past[k]? = some c := ⟨_, List.getElem?_eq_getElem (by rw [HN.out]; exact hlt)⟩
      obtain ⟨rfl, hg, _, _, c0, c1, ua, l, na, g1, o1, nc, rfl, rfl, hL1⟩ := (HP.out.step hB1.drew (by omega)) k c hc
      obtain ⟨rfl, hg', _, _, c0', c1', ua', l', na', g2, o2, nc', rfl, rfl, hL2⟩ := (HP'.out.step hB1.drew (by omega)) k c hc
      have hgd : g < wr.drew.heap.size := by show g < wr.heap.size; omega
      have hgd' : g' < wr.drew.heap.size := by show g' < wr.heap.size; omega
      have hx1 : w.heap.size < wr.drew.heap.size := by show w.heap.size < wr.heap.size; omega
      have hx2 : w.heap.size + 1 < wr.drew.heap.size := by show w.heap.size + 1 < wr.heap.size; omega
      have HL1 := Lib.hid hL1
      have HL2 := Lib.hid hL2
      have S0 : (fun w' => (w'.cell? ⟨w.heap.size, 2, none⟩ = some (.slice (some ⟨g, o, none⟩) n pc) ∧ w'.cell? ⟨w.heap.size + 1, 2, none⟩ = some (.slice (some ⟨g', o', none⟩) n pc')) ∧ w'.cell? ⟨g, o + k * 2, none⟩ = some (.slice ua c.m.n l.cap) ∧ w'.cell? ⟨g, o + k * 2 + 1, none⟩ = some (.slice na c.k nc) ∧ w'.cell? ⟨g', o' + k * 2, none⟩ = some (.slice ua' c.m.n l'.cap) ∧ w'.cell? ⟨g', o' + k * 2 + 1, none⟩ = some (.slice na' c.k nc')) wr.drew := ⟨⟨r2, s2⟩, c0, c1, c0', c1'⟩
      clear hc hL1 hL2 c0 c1 c0' c1'
      go_wp2_with fail
      clear r2 s2
      refine region_plain (fuel := 12) (listed := #[false, false, false, false, false, false, false, false, false, false, false, false]) (fun w' => (w'.cell? ⟨w.heap.size, 2, none⟩ = some (.slice (some ⟨g, o, none⟩) n pc) ∧ w'.cell? ⟨w.heap.size + 1, 2, none⟩ = some (.slice (some ⟨g', o', none⟩) n pc')) ∧ w'.cell? ⟨g, o + k * 2, none⟩ = some (.slice ua c.m.n l.cap) ∧ w'.cell? ⟨g, o + k * 2 + 1, none⟩ = some (.slice na c.k nc) ∧ w'.cell? ⟨g', o' + k * 2, none⟩ = some (.slice ua' c.m.n l'.cap) ∧ w'.cell? ⟨g', o' + k * 2 + 1, none⟩ = some (.slice na' c.k nc')) (by kernel_rfl) (by kernel_rfl) (by kernel_rfl) ?_
      refine hold_take (i := 0) (d := 20) (v := ?vE0) (listed' := #[true, false, false, false, false, false, false, false, false, false, false, false]) rfl (by kernel_rfl) (by kernel_rfl) (by kernel_rfl) rfl (by rfl) (by kernel_rfl) S0 ?hE0 ?rE0
      case hE0 =>
        intro w' hSw
        obtain ⟨⟨m0, m1⟩, k0, k1, k2, k3⟩ := hSw
        go_simp
        try with_reducible rfl
      simp only [List.setIfInBounds_toArray, List.set_cons_zero, List.set_cons_succ]
      refine hold_take (i := 1) (d := 21) (v := ?vE1) (listed' := #[true, true, false, false, false, false, false, false, false, false, false, false]) rfl (by kernel_rfl) (by kernel_rfl) (by kernel_rfl) rfl (by rfl) (by kernel_rfl) S0 ?hE1 ?rE1
      case hE1 =>
        intro w' hSw
        obtain ⟨⟨m0, m1⟩, k0, k1, k2, k3⟩ := hSw
        go_simp
        try with_reducible rfl
      simp only [List.setIfInBounds_toArray, List.set_cons_zero, List.set_cons_succ]
      refine hold_take (i := 2) (d := 22) (v := ?vE2) (listed' := #[true, true, true, false, false, false, false, false, false, false, false, false]) rfl (by kernel_rfl) (by kernel_rfl) (by kernel_rfl) rfl (by rfl) (by kernel_rfl) S0 ?hE2 ?rE2
      case hE2 =>
        intro w' hSw
        obtain ⟨⟨m0, m1⟩, k0, k1, k2, k3⟩ := hSw
        go_simp
        try with_reducible rfl
      simp only [List.setIfInBounds_toArray, List.set_cons_zero, List.set_cons_succ]
      refine hold_take (i := 3) (d := 23) (v := ?vE3) (listed' := #[true, true, true, true, false, false, false, false, false, false, false, false]) rfl (by kernel_rfl) (by kernel_rfl) (by kernel_rfl) rfl (by rfl) (by kernel_rfl) S0 ?hE3 ?rE3
      case hE3 =>
        intro w' hSw
        obtain ⟨⟨m0, m1⟩, k0, k1, k2, k3⟩ := hSw
        go_simp
        try with_reducible rfl
      simp only [List.setIfInBounds_toArray, List.set_cons_zero, List.set_cons_succ]
      refine hold_take (i := 4) (d := 24) (v := ?vE4) (listed' := #[true, true, true, true, true, false, false, false, false, false, false, false]) rfl (by kernel_rfl) (by kernel_rfl) (by kernel_rfl) rfl (by rfl) (by kernel_rfl) S0 ?hE4 ?rE4
      case hE4 =>
        intro w' hSw
        obtain ⟨⟨m0, m1⟩, k0, k1, k2, k3⟩ := hSw
        go_simp
        try with_reducible rfl
      simp only [List.setIfInBounds_toArray, List.set_cons_zero, List.set_cons_succ]
      refine hold_take (i := 5) (d := 25) (v := ?vE5) (listed' := #[true, true, true, true, true, true, false, false, false, false, false, false]) rfl (by kernel_rfl) (by kernel_rfl) (by kernel_rfl) rfl (by rfl) (by kernel_rfl) S0 ?hE5 ?rE5
      case hE5 =>
        intro w' hSw
        obtain ⟨⟨m0, m1⟩, k0, k1, k2, k3⟩ := hSw
        go_simp
        try with_reducible rfl
      simp only [List.setIfInBounds_toArray, List.set_cons_zero, List.set_cons_succ]
      refine hold_take (i := 6) (d := 26) (v := ?vE6) (listed' := #[true, true, true, true, true, true, true, false, false, false, false, false]) rfl (by kernel_rfl) (by kernel_rfl) (by kernel_rfl) rfl (by rfl) (by kernel_rfl) S0 ?hE6 ?rE6
      case hE6 =>
        intro w' hSw
        obtain ⟨⟨m0, m1⟩, k0, k1, k2, k3⟩ := hSw
        go_simp
        try with_reducible rfl
      simp only [List.setIfInBounds_toArray, List.set_cons_zero, List.set_cons_succ]
      refine hold_take (i := 7) (d := 27) (v := ?vE7) (listed' := #[true, true, true, true, true, true, true, true, false, false, false, false]) rfl (by kernel_rfl) (by kernel_rfl) (by kernel_rfl) rfl (by rfl) (by kernel_rfl) S0 ?hE7 ?rE7
      case hE7 =>
        intro w' hSw
        obtain ⟨⟨m0, m1⟩, k0, k1, k2, k3⟩ := hSw
        go_simp
        try with_reducible rfl
      simp only [List.setIfInBounds_toArray, List.set_cons_zero, List.set_cons_succ]
      refine hold_take (i := 8) (d := 28) (v := ?vE8) (listed' := #[true, true, true, true, true, true, true, true, true, false, false, false]) rfl (by kernel_rfl) (by kernel_rfl) (by kernel_rfl) rfl (by rfl) (by kernel_rfl) S0 ?hE8 ?rE8
      case hE8 =>
        intro w' hSw
        obtain ⟨⟨m0, m1⟩, k0, k1, k2, k3⟩ := hSw
        go_simp
        try with_reducible rfl
      simp only [List.setIfInBounds_toArray, List.set_cons_zero, List.set_cons_succ]
      refine hold_take (i := 9) (d := 29) (v := ?vE9) (listed' := #[true, true, true, true, true, true, true, true, true, true, false, false]) rfl (by kernel_rfl) (by kernel_rfl) (by kernel_rfl) rfl (by rfl) (by kernel_rfl) S0 ?hE9 ?rE9
      case hE9 =>
        intro w' hSw
        obtain ⟨⟨m0, m1⟩, k0, k1, k2, k3⟩ := hSw
        go_simp
        try with_reducible rfl
      simp only [List.setIfInBounds_toArray, List.set_cons_zero, List.set_cons_succ]
      refine hold_call (i := 10) (d := 30) (listed' := #[true, true, true, true, true, true, true, true, true, true, true, false]) rfl (by kernel_rfl) rfl (by rfl) (by kernel_rfl) ?heE10 (sameLogic_any (nc := nc) (nc' := nc') HL1.out HL2.out) ?hcE10
      case heE10 => go_simp
      rintro e x8 ⟨rfl, b8⟩
      obtain ⟨⟨z0, z1⟩, y0, y1, y2, y3⟩ := S0
      have S1 : (fun w' => (w'.cell? ⟨w.heap.size, 2, none⟩ = some (.slice (some ⟨g, o, none⟩) n pc) ∧ w'.cell? ⟨w.heap.size + 1, 2, none⟩ = some (.slice (some ⟨g', o', none⟩) n pc')) ∧ w'.cell? ⟨g, o + k * 2, none⟩ = some (.slice ua c.m.n l.cap) ∧ w'.cell? ⟨g, o + k * 2 + 1, none⟩ = some (.slice na c.k nc) ∧ w'.cell? ⟨g', o' + k * 2, none⟩ = some (.slice ua' c.m.n l'.cap) ∧ w'.cell? ⟨g', o' + k * 2 + 1, none⟩ = some (.slice na' c.k nc')) x8 := ⟨⟨(b8.cell (p := ⟨w.heap.size, 2, none⟩) hx1).trans z0, (b8.cell (p := ⟨w.heap.size + 1, 2, none⟩) hx2).trans z1⟩, (b8.cell (p := ⟨g, o + k * 2, none⟩) hgd).trans y0, (b8.cell (p := ⟨g, o + k * 2 + 1, none⟩) hgd).trans y1, (b8.cell (p := ⟨g', o' + k * 2, none⟩) hgd').trans y2, (b8.cell (p := ⟨g', o' + k * 2 + 1, none⟩) hgd').trans y3⟩
      refine ⟨_, rfl, S1, ?_⟩
      simp only [List.setIfInBounds_toArray, List.set_cons_zero, List.set_cons_succ]
      refine hold_take (i := 11) (d := 31) (v := ?vE11) (listed' := #[true, true, true, true, true, true, true, true, true, true, true, true]) rfl (by kernel_rfl) (by kernel_rfl) (by kernel_rfl) rfl (by rfl) (by kernel_rfl) S1 ?hE11 ?rE11
      case hE11 =>
        intro w' hSw
        obtain ⟨⟨m0, m1⟩, k0, k1, k2, k3⟩ := hSw
        go_simp
        try with_reducible rfl
      simp only [List.setIfInBounds_toArray, List.set_cons_zero, List.set_cons_succ]
      refine hold_done (by kernel_rfl) ?_ _
      go_wp2_with fail
      exact ⟨⟨k + 1, by omega, by go_num, hB1.trans (((Below.refl _ wr).drew.trans b8).mono hB1.size)⟩, by simp [RowKit.intOf]; omega⟩
    · have hlt' : ¬ (k : Int) < n := by omega
      have q0 := X3.cell 0 rfl
      have q1 := X3.cell 1 rfl
      have y0 := Y3.cell 0 rfl
      have y1 := Y3.cell 1 rfl
      rw [World.size_alloc] at y0 y1
      have HL3 := Lib.hid (HL.out.step hB1)
      have HL3' := Lib.hid (HL'.out.step hB1)
      have B1 := b0.trans (hB1.mono b0.size)
      go_wp2_with fail
      go_at_call 17
      refine (sameLogic_any (nc := nc) (nc' := nc') HL3.out HL3'.out).mono ?_
      rintro e w9 ⟨rfl, b9⟩
      clear q0 q1 y0 y1 r2 s2
      go_wp2_with fail
      go_ret
      exact ⟨rfl, B1.trans (b9.mono B1.size)⟩
theorem zeroAt (w : World) : DeskAt w w.heap.size (.agg #[.slice none 0 0, .slice none 0 0, .slice none 0 0]) zeroD := (zeroW w 0 (Nat.zero_le _)).at_
set_option maxRecDepth 100000 in
set_option maxHeartbeats 4000000 in
theorem noDesk_any {w : World} {B : Nat} {v : Value} (h : DeskAt w B v zeroD) :
    Calls Try.prog 15 #[v] w fun e w' => e = .returned (.bool true) ∧ Below w.heap.size w w' := by
  have hA := h
  obtain ⟨ua, l, na, g0, o0, nc, pa, g, o, pc, rfl, hL, hP, hn63⟩ := h
  clear hL hP hn63
  generalize zeroD.now.m.n = n1 at hA ⊢
  generalize zeroD.now.k = n2 at hA ⊢
  generalize zeroD.past.length = n3 at hA ⊢
  have X := BoxN.start w #[.slice ua n1 l.cap, .slice na n2 nc, .slice pa n3 pc] 29
  have b0 := X.below
  have HA := Lib.hid (hA.step b0)
  have q0 := X.cell 0 rfl
  have q1 := X.cell 1 rfl
  have q2 := X.cell 2 rfl
  clear hA
  go_enter Try.func15, Try.ntmps15
  go_wp2_with fail
  go_at_call 14
  refine (sameDesk_any HA.out (zeroAt _)).mono ?_
  rintro e w2 ⟨rfl, b2⟩
  go_wp2_with fail
  go_ret
  exact ⟨rfl, b0.trans (b2.mono b0.size)⟩
end Go.Proofs.Ytojcgmgponnlpaa
