/- The program's ValueOf. -/
import Derived.Test.YtjmhhjdkemicbaaKf
namespace Go.Proofs.Ytjmhhjdkemicbaa
open Go.RowKit Go.Deep

/-- What ValueOf returns. -/
noncomputable def valueV (m : Mx) (k : Nat) (z : Nat → Int) (s : List UInt8) (x v t : Int) : Int :=
  if (formB s && ((logicB m k z && goodB m.n 2 (two x v)) && (logicB m k z && goodB m.n 2 (two x t)))) = true then
    match fmOf s with
    | some f => ((valN m (fun c => (z c).toNat) (leastI m).toNat x.toNat v.toNat t.toNat f : Nat) : Int)
    | none => -1
  else -1
theorem valueV_yes {m : Mx} {z : Nat → Int} {s : List UInt8} {a b d n0 : Nat} {f : Fm} (hf : formB s = true) (he : fmOf s = some f) (h1 : (logicB m m.n z && goodB m.n 2 (two (a : Int) (b : Int))) = true) (h2 : (logicB m m.n z && goodB m.n 2 (two (a : Int) (d : Int))) = true) (hO : Ortho m z (fun c => (z c).toNat) n0) :
    valueV m m.n z s (a : Int) (b : Int) (d : Int) = ((valN m (fun c => (z c).toNat) n0 a b d f : Nat) : Int) := by
  unfold valueV
  rw [hf, h1, h2, if_pos (by rfl), he, hO.eq]
  simp
theorem valueV_nof {m : Mx} {k : Nat} {z : Nat → Int} {s : List UInt8} {x v t : Int} (hf : formB s = false) : valueV m k z s x v t = -1 := by unfold valueV; rw [hf]; rfl
theorem valueV_nol {m : Mx} {k : Nat} {z : Nat → Int} {s : List UInt8} {x v t : Int} (h : ((logicB m k z && goodB m.n 2 (two x v)) && (logicB m k z && goodB m.n 2 (two x t))) = false) : valueV m k z s x v t = -1 := by
  unfold valueV; rw [h, Bool.and_false]; rfl

set_option maxRecDepth 100000 in
set_option maxHeartbeats 4000000 in
theorem ValueOf_any {w : World} {B : Nat} {ua : Option Addr} {l : Lay} {m : Mx} {na : Option Addr} {g o k nc : Nat} {z : Nat → Int} {x v t : Int} (h : LogAt w B ua l m na g o k z) (s : ByteArray) (hs : s.size ≤ 9223372036854775807) :
    Calls Try.prog 16 #[.agg #[.slice ua m.n l.cap, .slice na k nc], .string s, .int .i64 x, .int .i64 v, .int .i64 t] w fun e w' => e = .returned (.int .i64 (valueV m k z s.data.toList x v t)) ∧ Below w.heap.size w w' := by
  have hX := BoxN.start w #[.slice ua m.n l.cap, .slice na k nc] 30
  have q0 := hX.cell 0 rfl
  have q1 := hX.cell 1 rfl
  have hrow := three_at (w.alloc (.cells #[.slice ua m.n l.cap, .slice na k nc] 30)) x v t
  rw [World.size_alloc] at hrow
  have b2 := (Below.refl (w.heap.size + 1) (w.alloc (.cells #[.slice ua m.n l.cap, .slice na k nc] 30))).alloc (by simp) (.cells #[.int .i64 x, .int .i64 v, .int .i64 t] 3)
  have hX2 := hX.step (b2.mono (by simp))
  have bw := hX2.below
  have hsz : ((w.alloc (.cells #[.slice ua m.n l.cap, .slice na k nc] 30)).alloc (.cells #[.int .i64 x, .int .i64 v, .int .i64 t] 3)).heap.size ≥ w.heap.size + 1 + 1 := by simp
  have h2 := Lib.hid (h.step bw)
  have HS := Lib.hid hs
  clear hs
  go_enter Try.func16, Try.ntmps16
  generalize hW : (w.alloc (.cells #[.slice ua m.n l.cap, .slice na k nc] 30)).alloc (.cells #[.int .i64 x, .int .i64 v, .int .i64 t] 3) = W at hrow hX2 bw hsz h2
  have hrow2 : Hid (RowAt W W.heap.size (some ⟨w.heap.size + 1, 0, none⟩) (w.heap.size + 1) 0 3 (three x v t)) := ⟨fun c hc => by obtain ⟨a1, a2, a3⟩ := hrow.row c hc; exact ⟨a1, by omega, a3⟩⟩
  clear hX b2 h hrow
  go_wp2_with fail
  go_at_call 36
  refine (algebraWith_any h2.out hrow2.out (by omega)).mono ?_
  rintro e w1 ⟨b1, (⟨hg, ob, tb, tG, rfl, hA⟩ | ⟨hg, rfl⟩)⟩
  · clear hW q0 q1 hrow2
    have B1 := bw.trans (b1.mono bw.size)
    have h3 := h2.out.step b1
    clear h2 hX2 bw hsz
    rw [good_three, split_tests, Bool.and_eq_true] at hg
    obtain ⟨a, b, d, n0, rfl, rfl, rfl, ha, hb, hd, rfl, hO⟩ := parts_split hg.1 hg.2
    have HG := Lib.hid hg
    have HOO := Lib.hid hO
    obtain ⟨y, hy⟩ : ∃ y : Nat → Nat, y = fun c => (z c).toNat := ⟨_, rfl⟩
    rw [← hy] at hO
    have HY := Lib.hid hy
    obtain ⟨rfl, hL1⟩ := AL.of hA h3 hO
    clear hg hy hA h3 hO
    have hY := BoxN.start w1 #[.slice ua m.n l.cap, .slice (some ⟨g, o, none⟩) m.n nc, .slice (some ⟨ob, 0, none⟩) 2 2] 62
    have BY := B1.trans (hY.below.mono B1.size)
    have hL := Lib.hid (hL1.step hY.below)
    clear hL1
    have r0 := hY.cell 0 rfl
    have r1 := hY.cell 1 rfl
    have r2 := hY.cell 2 rfl
    unfold algV
    go_wp2_with fail
    go_at_call 32
    refine (formulaOf_any s _ HS.out).mono ?_
    rintro e w2 ⟨b2, ⟨hf, f, he, rfl⟩ | ⟨hf, vf, -, rfl⟩⟩
    · have HV : Hid (valueV m m.n z s.data.toList (a : Int) (b : Int) (d : Int) = ((valN m y n0 a b d f : Nat) : Int)) := by
        show _ = _
        rw [valueV_yes hf he HG.out.1 HG.out.2 HOO.out, HY.out]
      have BZ := BY.trans (b2.mono BY.size)
      have hZ := hY.step b2
      have hLz := Lib.hid (hL.out.step b2)
      have t0 := hZ.cell 0 rfl
      have t1 := hZ.cell 1 rfl
      have t2 := hZ.cell 2 rfl
      clear r0 r1 r2 hf he hL hY
      obtain ⟨tf, vf, ef⟩ := fmV_iface f
      have HC : Hid (Calls Try.prog 37 #[.agg #[.slice ua m.n l.cap, .slice (some ⟨g, o, none⟩) m.n nc, .slice (some ⟨ob, 0, none⟩) 2 2], .iface tf vf, .agg #[.int .i64 (a : Int), .int .i64 (b : Int), .int .i64 (d : Int)]] w2 fun e w' => e = .returned (.int .i64 ((valN m y n0 a b d f : Nat) : Int)) ∧ Below w2.heap.size w2 w') := by
        have h9 := val_all f (nc := nc) hLz.out ha hb hd
        rw [ef] at h9
        exact h9
      rw [ef]
      clear ef
      go_wp2_with fail
      go_at_call 37
      refine HC.out.mono ?_
      rintro e w3 ⟨rfl, b3⟩
      have B3 := BZ.trans (b3.mono BZ.size)
      go_wp2_with fail
      go_ret
      exact ⟨ret_int HV.out.symm, B3⟩
    · have HV : Hid (valueV m m.n z s.data.toList (a : Int) (b : Int) (d : Int) = -1) := valueV_nof hf
      have BZ := BY.trans (b2.mono BY.size)
      clear r0 r1 r2 hf
      go_wp2_with fail
      go_ret
      exact ⟨ret_int HV.out.symm, BZ⟩
  · rw [good_three, split_tests] at hg
    have HV : Hid (valueV m k z s.data.toList x v t = -1) := valueV_nol hg
    clear hW q0 q1 hrow2 hg
    have B1 := bw.trans (b1.mono bw.size)
    have B2 := B1.alloc B1.size (.cells #[.slice none 0 0, .slice none 0 0, .slice none 0 0] 62)
    unfold noAlg
    go_wp2_with fail
    go_at_call 32
    refine (formulaOf_any s _ HS.out).mono ?_
    rintro e w2 ⟨b2, ⟨hf, f, he, rfl⟩ | ⟨hf, vf, -, rfl⟩⟩
    · have B3 := B2.trans (b2.mono B2.size)
      go_wp2_with fail
      go_ret
      exact ⟨ret_int HV.out.symm, B3⟩
    · have B3 := B2.trans (b2.mono B2.size)
      go_wp2_with fail
      go_ret
      exact ⟨ret_int HV.out.symm, B3⟩
end Go.Proofs.Ytjmhhjdkemicbaa
