/- The walk of members, told as a list; the walks of the program's and the reference's UpToOf. -/
import Derived.Test.YtkfinkhdfbogjaaDoorCa
import Derived.Test.YtkfinkhdfbogjaaDoorYi
namespace Go.Proofs.YtkfinkhdfbogjaaDoor
open Go.RowKit Go.Deep

theorem mems_owned {W : World} {base s : Nat} {v : Value} (h : IntsAt W base v (memK s 12) (fun i => (memF s 12 i : Int))) : W.ownsRow base 3 1 v ((memsTo s 12).map Int.ofNat).length (((memsTo s 12).map Int.ofNat).map (Value.int .i64)) := by
  have e1 : ((memsTo s 12).map Int.ofNat).length = memK s 12 := by simp [memK]
  have e2 : ((memsTo s 12).map Int.ofNat).map (Value.int .i64) = (List.range (memK s 12)).map fun c => Value.int .i64 ((memF s 12 c : Nat) : Int) := by
    apply List.ext_getElem
    · simp [memK]
    · intro i h1 h2
      have hi : i < (memsTo s 12).length := by simpa using h1
      simp [memF, hi]
  rw [e1, e2]
  exact h
theorem mems_list {s n : Nat} : (memsTo s n).map Int.ofNat = listTo (fun i => s.testBit i) n := by
  induction n with
  | zero => rfl
  | succ n ih =>
    cases h : s.testBit n with
    | true => rw [memsTo_yes h, listTo_yes (p := fun i => s.testBit i) h, List.map_append, ih]; rfl
    | false => rw [memsTo_no h, listTo_no (p := fun i => s.testBit i) h, ih]
theorem listTo_congr {p q : Nat → Bool} {n : Nat} (h : ∀ i, i < n → p i = q i) : listTo p n = listTo q n := by
  induction n with
  | zero => rfl
  | succ n ih =>
    have e := ih fun i hi => h i (by omega)
    have hn := h n (by omega)
    cases hp : p n with
    | true => rw [listTo_yes hp, listTo_yes (hn ▸ hp), e]
    | false => rw [listTo_no hp, listTo_no (hn ▸ hp), e]
theorem listTo_more {p : Nat → Bool} {n k : Nat} (hk : n ≤ k) (h : ∀ i, n ≤ i → p i = false) : listTo p k = listTo p n := by
  induction hk with
  | refl => rfl
  | @step j hj ih => rw [listTo_no (h j hj), ih]
/-- Told up to a number: it is a projection of one before. -/
def upP (m : Mx) (y : Nat → Nat) (a j i : Nat) : Bool := anyB j fun b => decide (projN m y a b = i)
theorem upP_snoc {m : Mx} {y : Nat → Nat} {a j i : Nat} : upP m y a (j + 1) i = (upP m y a j i || decide (projN m y a j = i)) := by
  unfold upP anyB
  rw [List.range_succ, List.any_append]
  simp
theorem or_ltV {s b : Nat} (hs : s < 4096) (hb : b < 12) : s ||| 2 ^ b < 4096 := by
  have h1 : 2 ^ b < 2 ^ 12 := Nat.pow_lt_pow_right (by omega) hb
  exact Nat.or_lt_two_pow (n := 12) hs h1
/-- The sum of powers so far. -/
def Sums (m : Mx) (y : Nat → Nat) (a j s : Nat) : Prop := s < 4096 ∧ ∀ i, s.testBit i = upP m y a j i
theorem Sums.zero (m : Mx) (y : Nat → Nat) (a : Nat) : Sums m y a 0 0 := ⟨by omega, fun i => by simp [upP, anyB]⟩
theorem Sums.next {m : Mx} {y : Nat → Nat} {a j s : Nat} (h : Sums m y a j s) (hp : projN m y a j < 12) : Sums m y a (j + 1) (s ||| 2 ^ projN m y a j) :=
  ⟨or_ltV h.1 hp, fun i => by rw [Nat.testBit_or, h.2 i, upP_snoc, Nat.testBit_two_pow]⟩
theorem Sums.all {m : Mx} {y : Nat → Nat} {a s : Nat} (h : Sums m y a m.n s) (hn : m.n ≤ 12) (hp : ∀ b, b < m.n → projN m y a b < m.n) : (memsTo s 12).map Int.ofNat = upL m y a := by
  rw [mems_list]
  unfold upL
  rw [listTo_more hn fun i hi => by
    rw [h.2 i]
    cases hu : upP m y a m.n i with
    | false => rfl
    | true =>
      exfalso
      obtain ⟨b, hb, e⟩ := upB_iff.1 (show upB m y a i = true from hu)
      have := hp b hb
      omega]
  exact listTo_congr fun i _ => h.2 i

set_option maxRecDepth 100000 in
set_option maxHeartbeats 4000000 in
theorem members_list {s : Nat} (hs : s < 4096) {w : World} (hT : TabOk w) :
    Calls Tryd.prog 24 #[.int .i64 s] w (ListRes w ((memsTo s 12).map Int.ofNat)) := by
  obtain ⟨i0, hi0, hz0, hz1, hz2⟩ := info_parts infoInt
  have HI := Lib.hid hi0
  have HZ0 := Lib.hid hz0
  have HZ1 := Lib.hid hz1
  have HZ2 := Lib.hid hz2
  have HT := Lib.hid hT
  have HG := hT.size
  have cv : IntKind.u64.wrap (s : Int) = (s : Int) := by rw [IntKind.wrap_u64]; omega
  clear hi0 hz0 hz1 hz2 hT
  go_enter Tryd.func24, Tryd.ntmps24
  go_wp2_with fail
  go_loopw [3, 4] (fun t i wr => ∃ j r : Nat, i = .int .u64 r ∧ Hid (Rest s j r) ∧ IntsAt wr w.heap.size t j (fun i => (memF s 12 i : Int)) ∧ Below w.heap.size w wr) (fun _ i _ => (intOf i).toNat)
  case atStart => exact ⟨0, s, rfl, ⟨hs, [], rfl, rfl⟩, IntsAt.nil _ _ _, Below.refl _ _⟩
  case round =>
    obtain ⟨j, r, rfl, hR, hown, hW⟩ := hrel
    have hr := hR.out.1
    have hj := hR.out.le
    by_cases h0 : r = 0
    · subst h0
      have HJ := Lib.hid hR.out.all
      have hown' : IntsAt wr w.heap.size u3 (memK s 12) (fun i => (memF s 12 i : Int)) := by rw [← HJ.out]; exact hown
      have hL : Hid (wr.ownsRow w.heap.size 3 1 u3 ((memsTo s 12).map Int.ofNat).length (((memsTo s 12).map Int.ofNat).map (Value.int .i64))) := mems_owned hown'
      clear hown hown'
      go_wp2_with fail
      go_ret
      exact ⟨_, rfl, hL.out, hW⟩
    · have hz : ((r : Int) != 0) = true := by simp; omega
      have hT := Lib.hid (HT.out.step hW HG)
      obtain ⟨n1, n2, n3⟩ := hR.out.next h0
      have HN := Lib.hid n1
      have HV := Lib.hid n2
      have HL := Lib.hid n3
      have hsub : IntKind.u64.wrap ((r : Int) - 1) = ((r - 1 : Nat) : Int) := by rw [IntKind.wrap_u64]; omega
      have hand : bits .and .u64 (r : Int) ((r - 1 : Nat) : Int) = ((r &&& (r - 1) : Nat) : Int) := bits_and_u64_nat r (r - 1) (by omega) (by omega)
      have HS := Lib.hid hsub
      have HA := Lib.hid hand
      clear n1 n2 n3 hsub hand
      go_wp2_with fail
      go_at_call 43
      refine (tz_small hr h0 hT.out).mono ?_
      rintro e w2 ⟨rfl, rfl⟩
      rw [← HV.out]
      go_wp2_with (at_builtin; refine wpList_append_own _ rfl _ _ 24 rfl w.heap.size 3 i0 (.int .i64 0) 1 8 Tryd.underlying24 HI.out HZ0.out HZ1.out HZ2.out rfl (by decide) _ _ _ rfl (World.ownsRow.alloc hown _) ⟨wr.heap.size, 0, none⟩ 1 1 [.int .i64 (memF s 12 j : Int)] rfl rfl (cell_one_new _ _ _) ?c2 ?c3 ?c4 ?c5 ?_)
      case c2 => simp [Value.oneCell']
      case c3 => unfold maxLen; omega
      case c4 => have := hW.size; omega
      case c5 => have := hW.size; first | omega | (simp; omega)
      intro v' w4 hown4 hgrow _
      have HO4 : Hid (IntsAt w4 w.heap.size v' (j + 1) (fun i => (memF s 12 i : Int))) := by
        show IntsAt _ _ _ _ _
        refine IntsAt.told ?_
        exact hown4
      have hA : Below w.heap.size wr (wr.alloc (.cells #[.int .i64 (memF s 12 j : Int)] 3)) := (Below.refl _ _).alloc (by have := hW.size; omega) _
      have hG := hA.grown hgrow (by have := hW.size; first | omega | (simp; omega)) (ownsRow_block hown)
      have hW4 := Lib.hid (hW.trans (hG.mono (by omega)))
      clear hown4 hgrow hown hA hG
      have hsub := HS.out
      have hand := HA.out
      go_wp2_with fail
      go_roundw
      case rel => exact ⟨j + 1, r &&& (r - 1), rfl, HN.out, HO4.out, hW4.out⟩
      case measure => simp only [intOf, Int.toNat_natCast]; exact HL.out

set_option maxRecDepth 100000 in
set_option maxHeartbeats 4000000 in
theorem UpToOf_any {w : World} {B : Nat} {ua : Option Addr} {l : Lay} {m : Mx} {na : Option Addr} {g o k nc : Nat} {z : Nat → Int} {x : Int} (h : LogAt w B ua l m na g o k z) (hT : TabOk w) :
    Calls Tryd.prog 6 #[.agg #[.slice ua m.n l.cap, .slice na k nc], .int .i64 x] w (ListRes w (upV m k z x)) := by
  have HT := Lib.hid hT
  clear hT
  have hX := BoxN.start w #[.slice ua m.n l.cap, .slice na k nc] 26
  have q0 := hX.cell 0 rfl
  have q1 := hX.cell 1 rfl
  have hrow := lone_at (w.alloc (.cells #[.slice ua m.n l.cap, .slice na k nc] 26)) x
  rw [World.size_alloc] at hrow
  have b2 := (Below.refl (w.heap.size + 1) (w.alloc (.cells #[.slice ua m.n l.cap, .slice na k nc] 26))).alloc (by simp) (.cells #[.int .i64 x] 3)
  have hX2 := hX.step (b2.mono (by simp))
  have bw := hX2.below
  have hsz : ((w.alloc (.cells #[.slice ua m.n l.cap, .slice na k nc] 26)).alloc (.cells #[.int .i64 x] 3)).heap.size ≥ w.heap.size + 1 + 1 := by simp
  have h2 := Lib.hid (h.step bw)
  go_enter Tryd.func6, Tryd.ntmps6
  generalize hW : (w.alloc (.cells #[.slice ua m.n l.cap, .slice na k nc] 26)).alloc (.cells #[.int .i64 x] 3) = W at hrow hX2 bw hsz h2
  have hrow2 : Hid (RowAt W W.heap.size (some ⟨w.heap.size + 1, 0, none⟩) (w.heap.size + 1) 0 1 (lone1 x)) := ⟨fun c hc => by obtain ⟨a1, a2, a3⟩ := hrow.row c hc; exact ⟨a1, by omega, a3⟩⟩
  clear hX b2 h hrow
  go_wp2_with fail
  go_at_call 22
  refine (algebraWith_any h2.out hrow2.out (by omega)).mono ?_
  rintro e w1 ⟨b1, (⟨hg, ob, tb, tG, rfl, hA⟩ | ⟨hg, rfl⟩)⟩
  · clear hW q0 q1 hrow2
    have B1 := bw.trans (b1.mono bw.size)
    have h3 := h2.out.step b1
    clear h2 hX2 bw hsz
    obtain ⟨a, n0, rfl, ha, rfl, hl, hle, hO⟩ := good_one_parts hg
    obtain ⟨y, hy⟩ : ∃ y : Nat → Nat, y = fun c => (z c).toNat := ⟨_, rfl⟩
    rw [← hy] at hO
    obtain ⟨rfl, hL1⟩ := AL.of hA h3 hO
    have HV : Hid (upV m m.n z (a : Int) = upL m y a) := by
      show _ = _
      unfold upV
      rw [if_pos hg, Int.toNat_natCast, ← hy]
    clear hl hle
    clear hg hy hA h3 hO
    have hY := BoxN.start w1 #[.slice ua m.n l.cap, .slice (some ⟨g, o, none⟩) m.n nc, .slice (some ⟨ob, 0, none⟩) 2 2] 51
    have BY := B1.trans (hY.below.mono B1.size)
    have hL := Lib.hid (hL1.step hY.below)
    clear hL1
    have r0 := hY.cell 0 rfl
    have r1 := hY.cell 1 rfl
    have r2 := hY.cell 2 rfl
    unfold algV
    have hn := hL.out.O.lat.order.top
    have hya : ∀ b, b < m.n → projN m y a b < m.n := fun b hb => hL.out.O.proj_lt ha hb
    have HYA := Lib.hid hya
    have hT1 := HT.out.step BY HT.out.size
    have HT1 := Lib.hid hT1
    clear hya hT1
    go_wp2_with fail
    generalize w1.alloc (.cells #[.slice ua m.n l.cap, .slice (some ⟨g, o, none⟩) m.n nc, .slice (some ⟨ob, 0, none⟩) 2 2] 51) = W at hY hL BY HT1 r0 r1 r2 ⊢
    go_at_call 23
    refine (projection_any (nc := nc) hL.out ha).mono ?_
    rintro e w2 ⟨p, rfl, hP, b2⟩
    have hY2 := hY.step b2
    have B2 := BY.trans (b2.mono BY.size)
    have HP := Lib.hid hP
    have HT2 := Lib.hid (HT1.out.step b2 HT1.out.size)
    have p1 := hY2.cell 1 rfl
    clear hP r0 r1 r2 hY hL HT1 BY
    go_wp2_with fail
    go_loopw [8, 25] (fun t i wr => ∃ j s : Nat, j ≤ m.n ∧ i = .int .i64 j ∧ t = .int .i64 s ∧ Hid (Sums m y a j s) ∧ Below w2.heap.size w2 wr) (fun _ i _ => m.n - (intOf i).toNat)
    case atStart => exact ⟨0, 0, Nat.zero_le _, rfl, rfl, Sums.zero m y a, Below.refl _ _⟩
    case round =>
      obtain ⟨j, s, hj, rfl, rfl, hS, hD⟩ := hrel
      by_cases hlt : j < m.n
      · have hlt' : (j : Int) < m.n := by omega
        have hPr := Lib.hid (HP.out.step hD)
        have hs := hS.out.1
        have hpl := HYA.out j hlt
        have HN := Lib.hid (hS.out.next (by omega))
        obtain ⟨pj, hpj⟩ : ∃ pj, projN m y a j = pj := ⟨_, rfl⟩
        rw [hpj] at hpl HN
        have HPJ := Lib.hid hpj
        have ho : bits .or .i64 (s : Int) (IntKind.i64.wrap (2 ^ pj)) = ((s ||| 2 ^ pj : Nat) : Int) := by
          have hp := pow_le_12 (k := pj) (by omega)
          rw [one_wrap (by omega), i64_or_nat _ _ (by omega) (by omega)]
        have HO : Hid (bits .or .i64 (s : Int) (wrap64 (2 ^ pj)) = ((s ||| 2 ^ pj : Nat) : Int)) := by
          show _ = _
          rw [← IntWalk.i64_left]
          exact ho
        have hb' : (pj : Int) ≤ 64 := by omega
        have hb'' : (pj : Int) < 64 := by omega
        clear hS hpj ho
        go_wp2_with fail
        go_at_call 41
        refine (project_any hPr.out hlt).mono ?_
        rintro e w3 ⟨rfl, b3⟩
        rw [HPJ.out]
        have hD3 := hD.trans (b3.mono hD.size)
        clear hD hPr
        go_wp2_with fail
        go_roundw
        case rel => exact ⟨j + 1, s ||| 2 ^ pj, by omega, by go_num, congrArg (Value.int .i64) HO.out, HN.out, hD3⟩
        case measure => simp [intOf]; omega
      · have hlt' : ¬ (j : Int) < m.n := by omega
        have ej : j = m.n := by omega
        have hS2 := hS.out
        rw [ej] at hS2
        have hs := hS2.1
        have HL := Lib.hid (hS2.all hn HYA.out)
        have HT3 := Lib.hid (HT2.out.step hD HT2.out.size)
        have B3 := B2.trans (hD.mono B2.size)
        clear hS hS2 ej
        go_wp2_with fail
        go_at_call 24
        refine (members_list hs HT3.out).mono ?_
        rintro e w4 ⟨v, rfl, hv, b4⟩
        rw [HL.out] at hv
        go_wp2_with fail
        go_ret
        exact ⟨_, rfl, by rw [HV.out]; exact ownsRow_base hv B3.size, B3.trans (b4.mono B3.size)⟩
  · have HV : Hid (upV m k z x = []) := by show _ = _; unfold upV; rw [if_neg (by rw [hg]; decide)]
    clear hW q0 q1 hrow2 hg
    have B1 := bw.trans (b1.mono bw.size)
    have B2 := B1.alloc B1.size (.cells #[.slice none 0 0, .slice none 0 0, .slice none 0 0] 51)
    unfold noAlg
    go_wp2_with fail
    go_ret
    exact ⟨_, rfl, by rw [HV.out]; exact World.ownsRow_nil _ _ _ _, B2⟩

set_option maxRecDepth 100000 in
set_option maxHeartbeats 4000000 in
theorem spec_UpToOf {w : World} {B : Nat} {ua : Option Addr} {l : Lay} {m : Mx} {na : Option Addr} {g o k nc : Nat} {z : Nat → Int} {x : Int} (h : LogAt w B ua l m na g o k z) :
    Calls Tryd.prog 8 #[.agg #[.slice ua m.n l.cap, .slice na k nc], .int .i64 x] w (ListRes w (upV m k z x)) := by
  have hX := BoxN.start w #[.slice ua m.n l.cap, .slice na k nc] 26
  have h1 := Lib.hid (h.alloc (.cells #[.slice ua m.n l.cap, .slice na k nc] 26))
  have q0 := hX.cell 0 rfl
  have q1 := hX.cell 1 rfl
  have hkk := h.hk
  have hsz : (w.alloc (.cells #[.slice ua m.n l.cap, .slice na k nc] 26)).heap.size = w.heap.size + 1 := by simp
  clear h
  cases hg : (logicB m k z && goodB m.n 1 (lone1 x)) with
  | false =>
    have HN : Hid (notV m k z x = -1) := by show _ = _; unfold notV; rw [if_neg (by rw [hg]; decide)]
    have HF : Hid (upV m k z x = []) := by show _ = _; unfold upV; rw [hg]; rfl
    clear hg
    go_enter Tryd.func8, Tryd.ntmps8
    go_wp2_with fail
    generalize w.alloc (.cells #[.slice ua m.n l.cap, .slice na k nc] 26) = W at h1 hX q0 q1 hsz ⊢
    have hown0 : (W.alloc (.cells #[] 3)).ownsRow (w.heap.size + 1) 3 1 (.slice (some ⟨w.heap.size + 1, 0, none⟩) 0 0) 0 [] := by
      rw [← hsz]
      exact World.ownsRow_lit (base := W.heap.size) (e := 3) (size := 1) W #[] 0 (Nat.le_refl _) (Nat.zero_le _) rfl
    have hb1 := (Below.refl W.heap.size W).alloc (Nat.le_refl _) (.cells #[] 3)
    have hX1 := hX.step hb1
    have h2 := Lib.hid (h1.out.step hb1)
    clear h1 hX
    have q0 := hX1.cell 0 rfl
    have q1 := hX1.cell 1 rfl
    generalize hWe : W.alloc (.cells #[] 3) = W1 at *
    go_loopw [5, 6] (fun v i wr => v = .slice (some ⟨w.heap.size + 1, 0, none⟩) 0 0 ∧ i = .int .i64 0 ∧ wr = W1) (fun _ _ _ => 0)
    case atStart => exact ⟨rfl, rfl, rfl⟩
    case round =>
      obtain ⟨rfl, rfl, rfl⟩ := hrel
      by_cases hk0 : 0 < k
      · have hk0' : (0 : Int) < k := by omega
        go_wp2_with fail
        go_at_call 25
        refine (spec_NotOf h2.out).mono ?_
        rintro e w2 ⟨rfl, b2⟩
        rw [HN.out]
        have hX2 := hX1.step b2
        have ho := ownsRow_below hown0 b2 (Nat.le_refl _)
        clear q0 q1
        go_wp2_with fail
        go_ret
        exact ⟨_, rfl, by rw [HF.out]; exact ownsRow_base ho (Nat.le_succ _), hX2.below⟩
      · have hk0' : ¬ (0 : Int) < k := by omega
        go_wp2_with fail
        go_ret
        exact ⟨_, rfl, by rw [HF.out]; exact ownsRow_base hown0 (Nat.le_succ _), hX1.below⟩
  | true =>
    obtain ⟨a, n0, rfl, ha, rfl, hl, hle, hO⟩ := good_one_parts hg
    have hn := hO.lat.order.top
    have hpos := hO.lat.order.pos
    have HNot := Lib.hid (notV_at hg hO ha)
    obtain ⟨yy, hyy⟩ : ∃ yy : Nat → Nat, yy = fun a => (z a).toNat := ⟨_, rfl⟩
    rw [← hyy] at hO
    have HV : Hid (upV m m.n z (a : Int) = listTo (upB m yy a) m.n) := by show _ = _; unfold upV; rw [if_pos hg, hyy, Int.toNat_natCast]; rfl
    obtain ⟨rfl, _, _⟩ := h1.out.row.row 0 (by omega)
    obtain ⟨rfl, _, _⟩ := h1.out.mat.top 0 (by omega)
    have HO := Lib.hid hO
    have HYY := Lib.hid hyy
    have HL := Lib.hid hl
    have HLE := Lib.hid hle
    clear hl hO hyy hg hle
    obtain ⟨i0, hi, hz0, hz1, hz2⟩ := info_parts infoInt
    have HI := Lib.hid hi
    have HZ0 := Lib.hid hz0
    have HZ1 := Lib.hid hz1
    have HZ2 := Lib.hid hz2
    clear hi hz0 hz1 hz2
    go_enter Tryd.func8, Tryd.ntmps8
    go_wp2_with fail
    generalize w.alloc (.cells #[.slice (some ⟨l.b, l.o, none⟩) m.n l.cap, .slice (some ⟨g, o, none⟩) m.n nc] 26) = W at h1 hX q0 q1 hsz ⊢
    have hown0 : (W.alloc (.cells #[] 3)).ownsRow (w.heap.size + 1) 3 1 (.slice (some ⟨w.heap.size + 1, 0, none⟩) 0 0) 0 [] := by
      rw [← hsz]
      exact World.ownsRow_lit (base := W.heap.size) (e := 3) (size := 1) W #[] 0 (Nat.le_refl _) (Nat.zero_le _) rfl
    have hb1 := (Below.refl W.heap.size W).alloc (Nat.le_refl _) (.cells #[] 3)
    clear q0 q1
    go_loopw [5, 6] (fun v i wr => ∃ j : Nat, j ≤ m.n ∧ i = .int .i64 j ∧ wr.ownsRow (w.heap.size + 1) 3 1 v (listTo (upB m yy a) j).length ((listTo (upB m yy a) j).map (Value.int .i64)) ∧ Below W.heap.size W wr) (fun _ i _ => m.n - (intOf i).toNat)
    case atStart => exact ⟨0, Nat.zero_le _, rfl, hown0, hb1⟩
    case round =>
      clear hown0 hb1
      obtain ⟨j, hj, rfl, hown, hD⟩ := hrel
      have hXr := hX.step hD
      have hr := Lib.hid (h1.out.step hD)
      have q0 := hXr.cell 0 rfl
      have q1 := hXr.cell 1 rfl
      by_cases hlt : j < m.n
      · have hlt' : (j : Int) < m.n := by omega
        have hs := hD.size
        have hlen := listTo_len (upB m yy a) j
        go_wp2_with fail
        go_at_call 25
        refine (spec_NotOf hr.out).mono ?_
        rintro e w2 ⟨rfl, b2⟩
        rw [HNot.out]
        have hD2 := hD.trans (b2.mono hD.size)
        have hown2 := ownsRow_below hown b2 (Nat.le_refl _)
        have hX2 := hX.step hD2
        have h2 := Lib.hid (h1.out.step hD2)
        have hs2 := hD2.size
        have hnn : (0 : Int) ≤ (((z a).toNat : Nat) : Int) := Int.natCast_nonneg _
        clear q0 q1 hr hXr hD hown
        generalize (((z a).toNat : Nat) : Int) = za at hnn ⊢
        have ha' : (a : Int) < m.n := by omega
        have fa := HO.out.lt a ha
        obtain ⟨ya, hya⟩ : ∃ ya : Nat, ya = yy a := ⟨_, rfl⟩
        rw [← hya] at fa
        have HYA := Lib.hid hya
        clear hya
        go_wp2_with fail
        go_loopw [5, 7] (fun t i wi => ∃ b : Nat, b ≤ m.n ∧ i = .int .i64 b ∧ Hid (∀ c, c < b → ¬ projN m yy a c = j) ∧ wi.ownsRow (w.heap.size + 1) 3 1 t (listTo (upB m yy a) j).length ((listTo (upB m yy a) j).map (Value.int .i64)) ∧ Below w2.heap.size w2 wi) (fun _ i _ => m.n - (intOf i).toNat)
        case atStart => exact ⟨0, Nat.zero_le _, rfl, fun c hc => absurd hc (Nat.not_lt_zero _), hown2, Below.refl _ _⟩
        case round =>
          clear hown2
          obtain ⟨b, hbn, rfl, hno, hown5, hT⟩ := hrel
          have hE := hD2.trans (hT.mono hD2.size)
          have hXi := hX.step hE
          have r0 := hXi.cell 0 rfl
          have r1 := hXi.cell 1 rfl
          have hEs := hE.size
          by_cases hbt : b < m.n
          · have hbt' : (b : Int) < m.n := by omega
            have hri := h1.out.step hE
            obtain ⟨_, _, d1⟩ := hri.row.row a ha
            have hzy : z a = (yy a : Int) := HO.out.zy a ha
            rw [hzy, ← HYA.out] at d1
            have hmat := Lib.hid hri.mat
            have m1 := (HO.out.jG fa hbt).lt
            clear hri hzy hXi
            cases hk : decide (projN m yy a b = j) with
            | true =>
              have e : mN m a (jN m ya b) = j := by rw [HYA.out]; exact of_decide_eq_true hk
              have n1 : (((mN m a (jN m ya b) : Nat) : Int) == (j : Int)) = true := by rw [e]; simp
              have HN := Lib.hid (listTo_yes (p := upB m yy a) (k := j) (upB_iff.2 ⟨b, hbt, of_decide_eq_true hk⟩))
              clear e hk
              go_wp2_with fail
              go_quiet (first | (go_at_call 27; exact joinQ hmat.out HO.out fa hbt) | (go_at_call 26; exact meetQ hmat.out HO.out ha m1))
              go_wp2_with (at_builtin; refine wpList_append_own _ rfl _ _ 24 rfl (w.heap.size + 1) 3 i0 (.int .i64 0) 1 8 Tryd.underlying24 HI.out HZ0.out HZ1.out HZ2.out rfl (by decide) _ _ _ rfl ((ownsRow_below hown5 (Below.drewN' (Below.refl _ _) _) (Nat.le_refl _)).alloc _) ⟨wr.heap.size, 0, none⟩ 1 1 [.int .i64 j] rfl rfl (cell_one_new _ _ _) ?c2 ?c3 ?c4 ?c5 ?_)
              case c2 => simp [Value.oneCell']
              case c3 => unfold maxLen; omega
              case c4 => omega
              case c5 => first | omega | (simp; omega)
              intro v' w4 hown4 hgrow _
              have HO4 : Hid (w4.ownsRow (w.heap.size + 1) 3 1 v' (listTo (upB m yy a) (j + 1)).length ((listTo (upB m yy a) (j + 1)).map (Value.int .i64))) := by
                show World.ownsRow _ _ _ _ _ _ _
                rw [HN.out, List.length_append, List.map_append]
                exact hown4
              have hW4 := ((Below.drewN' hE _).alloc hEs (.cells #[.int .i64 j] 3)).grown hgrow (by simp; omega) (fun c hc => by have := ownsRow_block hown5 c hc; omega)
              clear hown4 hgrow hown5 hE
              go_wp2_with fail
              go_roundw
              case rel => exact ⟨j + 1, by omega, by go_num, HO4.out, hW4⟩
              case measure => simp [intOf]; omega
            | false =>
              have e : ¬ mN m a (jN m ya b) = j := by rw [HYA.out]; exact of_decide_eq_false hk
              have n1 : (((mN m a (jN m ya b) : Nat) : Int) == (j : Int)) = false := by rw [beq_eq_false_iff_ne]; omega
              have hno' : Hid (∀ c, c < b + 1 → ¬ projN m yy a c = j) := fun c hc => by
                by_cases q : c = b
                · rw [q]; exact of_decide_eq_false hk
                · exact hno.out c (by omega)
              clear e hk
              go_wp2_with fail
              go_quiet (first | (go_at_call 27; exact joinQ hmat.out HO.out fa hbt) | (go_at_call 26; exact meetQ hmat.out HO.out ha m1))
              go_wp2_with fail
              go_roundw
              case rel => exact ⟨b + 1, by omega, by go_num, hno', ownsRow_below hown5 (Below.drewN' (Below.refl _ _) _) (Nat.le_refl _), Below.drewN' hT _⟩
              case measure => simp [intOf]; omega
          · have hbt' : ¬ (b : Int) < m.n := by omega
            have hup : upB m yy a j = false := by
              cases hu : upB m yy a j with
              | false => rfl
              | true =>
                obtain ⟨c, hc, e⟩ := upB_iff.1 hu
                exact absurd e (hno.out c (by omega))
            have HN := Lib.hid (listTo_no hup)
            clear hup hno
            go_wp2_with fail
            go_roundw
            case rel => exact ⟨j + 1, by omega, by go_num, by rw [HN.out]; exact hown5, hE⟩
            case measure => simp [intOf]; omega
      · have hlt' : ¬ (j : Int) < m.n := by omega
        have HK : Hid (j = m.n) := by show _ = _; omega
        go_wp2_with fail
        go_ret
        exact ⟨_, rfl, by rw [HV.out, ← HK.out]; exact ownsRow_base hown (Nat.le_succ _), hXr.below⟩

end Go.Proofs.YtkfinkhdfbogjaaDoor
