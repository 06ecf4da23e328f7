/- What strings.Lines hands back yields the lines of a text. -/
import Derived.Test.YtjofkejfldmmlaaDoorXp
import Derived.Test.YtjofkejfldmmlaaDoorXl
import Derived.Test.YtjofkejfldmmlaaDoorKy
import Derived.Sort.LoopGhostIn
namespace Go.Proofs.YtjofkejfldmmlaaDoor
open Go.RowKit Go.Deep Go.Shelf

/-- The first line with its end, or what is left where no line ends; and what comes behind it. -/
def firstP (r : List UInt8) : List UInt8 × List UInt8 := match lineOf r with | some (l, q) => (l ++ [10], q) | none => (r, [])
theorem firstP_line {l q : List UInt8} (h : (10 : UInt8) ∉ l) : firstP (l ++ 10 :: q) = (l ++ [10], q) := by unfold firstP; rw [line_at h]
theorem firstP_none {r : List UInt8} (h : (10 : UInt8) ∉ r) : firstP r = (r, []) := by unfold firstP; rw [line_none h]

set_option maxRecDepth 100000 in
set_option maxHeartbeats 4000000 in
theorem lines_seq {Bs : Nat} {sb : ByteArray} {w : World} (hs : sb.size ≤ 1073741824) (hb : w.heap[Bs]? = some (.cells #[.string sb] 9)) :
    SeqS Bs 63 #[.pointer (some ⟨Bs, 0, none⟩)] firstP sb.data.toList w := by
  intro ml lr J Jx W hW hJ hJx hF hR h0
  have hbW := (hW.block Bs (Array.getElem?_eq_some_iff.1 hb).1).trans hb
  have HR := Lib.hid hR
  have HJ0 := Lib.hid h0
  clear hb hW hR h0
  refine callsIn_of_wp Tryd.func63 rfl trivial ?_ rfl
  simp only [Tryd.ntmps63, List.size_toArray, List.length_cons, List.length_nil, Nat.reduceAdd, Nat.reduceSub, Array.replicate_succ, Array.replicate_zero, List.push_toArray, List.append_toArray, List.nil_append, List.cons_append]
  gi_wp2_with fail
  gi_loopg [] sb.size (fun k W' => ∃ tb : ByteArray, tb.size = k ∧ tb.size ≤ 1073741824 ∧ W'.heap[Bs]? = some (.cells #[.string tb] 9) ∧ J tb.data.toList W' ∧ W.heap.size ≤ W'.heap.size)
  case atStart => exact ⟨sb, rfl, hs, hbW, HJ0.out, Nat.le_refl _⟩
  case round =>
  obtain ⟨tb, rfl, ht, hbr, hJr, hwr⟩ := hrel
  clear hbW HJ0
  have k0 := Go.Joins.cell_of_block hbr 0
  have HB := Lib.hid hbr
  have HJ := Lib.hid hJr
  clear hJr hbr
  by_cases hz : tb.size = 0
  · have z0 : ¬ (0 : Int) < (tb.size : Int) := by omega
    have z9 : tb.data.toList = [] := by rw [← List.length_eq_zero_iff, ← size_data]; exact hz
    have HF : J [] wr := by rw [← z9]; exact HJ.out
    gi_wp2_with fail
    exact ⟨rfl, _, results_none rfl _ _ _, ⟨_, rfl⟩, .inl HF⟩
  have z0 : (0 : Int) < (tb.size : Int) := by omega
  have zne : tb.data.toList ≠ [] := fun e => hz (by rw [size_data, e]; rfl)
  gi_wp2_with fail
  refine ⟨trivial, fun h => (by cases h), ?_⟩
  refine (callsIn_wide.2 (indexByte_at tb 10 _)).mono ?_
  rintro e w1 ⟨rfl, rfl⟩
  unfold placeI
  rcases byte_cases tb.data.toList 10 with ⟨h1, h2⟩ | ⟨l, r, h1, h2, h3⟩
  · rw [h2]
    have f0 := Go.Joins.unfrozen_of_block HB.out 0
    have hb2 := Go.Joins.block_setCell (i := 0) HB.out (.string ⟨#[]⟩)
    have hs2 : (w1.setCell ⟨Bs, 0, none⟩ (.string ⟨#[]⟩)).heap.size = w1.heap.size := by simp
    obtain ⟨fn, tmps, assign, body, hy, hRd⟩ := HR.out (ml - 1) _ tb _ (hF _ _ (.string ⟨#[]⟩) HJ.out) zne (by rw [firstP_none h1])
    rw [firstP_none h1] at hRd
    clear HJ HB
    gi_wp2_with fail
    refine ⟨fun h => (by cases h), ?_⟩
    refine hRd.mono ?_
    rintro e W3 (⟨rfl, hJ3, hB3, hK3⟩ | ⟨rfl, hJ3, _⟩)
    · gi_wp2_with fail
      gi_roundg 0
      case measure => omega
      case rel => exact ⟨⟨#[]⟩, rfl, by decide, hB3.trans hb2, hJ3, by have := hK3.size; omega⟩
    · gi_wp2_with fail
      exact ⟨rfl, _, results_none rfl _ _ _, ⟨_, rfl⟩, .inr ⟨_, hJ3⟩⟩
  · rw [h3]
    obtain ⟨i, hi⟩ : ∃ i, l.length = i := ⟨_, rfl⟩
    rw [hi]
    have hsz : tb.size = i + (r.length + 1) := by rw [size_data, h1, List.length_append, List.length_cons, hi]
    have ea : (tb.extract 0 (i + 1)).data.toList = l ++ [10] := by
      rw [ext_data, h1, ← hi, Nat.sub_zero, List.drop_zero, show l ++ 10 :: r = (l ++ [10]) ++ r by simp, List.take_left' (by simp)]
    have eb : (tb.extract (i + 1) tb.size).data.toList = r := by rw [ext_end, h1, ← hi]; simp
    have hil : i + 1 ≤ tb.size := by omega
    have HW1 : Hid (IntKind.i64.wrap ((i : Int) + 1) = ((i + 1 : Nat) : Int)) := by show _ = _; rw [IntKind.wrap_i64]; omega
    have p0 : (0 : Int) ≤ (i : Int) := by omega
    have HE := Lib.hid ea
    have HE2 := Lib.hid eb
    have HL := Lib.hid h1
    have HSZ := Lib.hid hsz
    clear ea eb h1 h3 hi hsz
    have esz : (tb.extract (i + 1) tb.size).size = r.length := by rw [size_data, HE2.out]
    have hlt : (tb.extract (i + 1) tb.size).size < tb.size := by have := HSZ.out; omega
    gi_wp2_with fail
    have d0 : w1.drew.cell? ⟨Bs, 0, none⟩ = some (.string tb) := k0
    have f0 : w1.drew.frozen? ⟨Bs, 0, none⟩ = false := Go.Joins.unfrozen_of_block (show w1.drew.heap[Bs]? = _ from HB.out) 0
    have hb2 : ((w1.setCell ⟨Bs, 0, none⟩ (.string (tb.extract (i + 1) tb.size))).drew).heap[Bs]? = some (.cells #[.string (tb.extract (i + 1) tb.size)] 9) := Go.Joins.block_setCell (i := 0) (show w1.drew.heap[Bs]? = _ from HB.out) (.string (tb.extract (i + 1) tb.size))
    have hs2 : w1.heap.size ≤ ((w1.setCell ⟨Bs, 0, none⟩ (.string (tb.extract (i + 1) tb.size))).drew).heap.size := (KeepsWalks.setCell w1 ⟨Bs, 0, none⟩ (.string (tb.extract (i + 1) tb.size))).size
    obtain ⟨fn, tmps, assign, body, hy, hRd⟩ := HR.out (ml - 1) _ (tb.extract 0 (i + 1)) ((w1.setCell ⟨Bs, 0, none⟩ (.string (tb.extract (i + 1) tb.size))).drew) (hF _ _ (.string (tb.extract (i + 1) tb.size)) (OwnFrom.below (fun s A C row h hg hr => OwnFrom.up hJ hwr s A C row h hg hr) HJ.out (Below.refl _ w1).drew)) zne (by rw [HE.out, HL.out, firstP_line h2])
    have efp : (firstP tb.data.toList).2 = (tb.extract (i + 1) tb.size).data.toList := by rw [HL.out, firstP_line h2, HE2.out]
    rw [efp] at hRd
    clear HJ HB HR HE HE2 HL HSZ efp
    refine region_flatS (fuel := 10) (listed := #[false, false, false, false, false, false, false, false, false, false]) (fun _ => True) (by kernel_rfl) (by kernel_rfl) (by kernel_rfl) ?_
    refine hold_take (i := 1) (d := 13) (v := ?vqx1) (listed' := #[false, true, false, false, false, false, false, false, false, false]) rfl (by kernel_rfl) (by kernel_rfl) (by kernel_rfl) rfl (by rfl) (by kernel_rfl) trivial ?hqx1 ?rqx1
    case hqx1 =>
      intro w' hSw
      clear hSw
      go_simp
      first | with_reducible rfl | (rw [if_neg (by omega)]; done) | (rw [if_neg (by omega)]; with_reducible rfl) | (rw [if_pos (by omega)]; done) | (rw [if_pos (by omega)]; with_reducible rfl) | (simp only [HW1.out, Int.toNat_natCast]; rw [if_pos (by omega)]; done) | (simp only [HW1.out, Int.toNat_natCast]; rw [if_pos (by omega)]; with_reducible rfl) | (simp only [HW1.out]; done) | (simp only [HW1.out]; with_reducible rfl) | skip
    simp only [List.setIfInBounds_toArray, List.set_cons_zero, List.set_cons_succ]
    refine hold_take (i := 2) (d := 14) (v := ?vqx2) (listed' := #[false, true, true, false, false, false, false, false, false, false]) rfl (by kernel_rfl) (by kernel_rfl) (by kernel_rfl) rfl (by rfl) (by kernel_rfl) trivial ?hqx2 ?rqx2
    case hqx2 =>
      intro w' hSw
      clear hSw
      go_simp
      first | with_reducible rfl | (rw [if_neg (by omega)]; done) | (rw [if_neg (by omega)]; with_reducible rfl) | (rw [if_pos (by omega)]; done) | (rw [if_pos (by omega)]; with_reducible rfl) | (simp only [HW1.out, Int.toNat_natCast]; rw [if_pos (by omega)]; done) | (simp only [HW1.out, Int.toNat_natCast]; rw [if_pos (by omega)]; with_reducible rfl) | (simp only [HW1.out]; done) | (simp only [HW1.out]; with_reducible rfl) | skip
    simp only [List.setIfInBounds_toArray, List.set_cons_zero, List.set_cons_succ]
    refine hold_take (i := 5) (d := 17) (v := ?vqx5) (listed' := #[false, true, true, false, false, true, false, false, false, false]) rfl (by kernel_rfl) (by kernel_rfl) (by kernel_rfl) rfl (by rfl) (by kernel_rfl) trivial ?hqx5 ?rqx5
    case hqx5 =>
      intro w' hSw
      clear hSw
      go_simp
      first | with_reducible rfl | (rw [if_neg (by omega)]; done) | (rw [if_neg (by omega)]; with_reducible rfl) | (rw [if_pos (by omega)]; done) | (rw [if_pos (by omega)]; with_reducible rfl) | (simp only [HW1.out, Int.toNat_natCast]; rw [if_pos (by omega)]; done) | (simp only [HW1.out, Int.toNat_natCast]; rw [if_pos (by omega)]; with_reducible rfl) | (simp only [HW1.out]; done) | (simp only [HW1.out]; with_reducible rfl) | skip
    simp only [List.setIfInBounds_toArray, List.set_cons_zero, List.set_cons_succ]
    refine hold_take (i := 6) (d := 18) (v := ?vqx6) (listed' := #[false, true, true, false, false, true, true, false, false, false]) rfl (by kernel_rfl) (by kernel_rfl) (by kernel_rfl) rfl (by rfl) (by kernel_rfl) trivial ?hqx6 ?rqx6
    case hqx6 =>
      intro w' hSw
      clear hSw
      go_simp
      first | with_reducible rfl | (rw [if_neg (by omega)]; done) | (rw [if_neg (by omega)]; with_reducible rfl) | (rw [if_pos (by omega)]; done) | (rw [if_pos (by omega)]; with_reducible rfl) | (simp only [HW1.out, Int.toNat_natCast]; rw [if_pos (by omega)]; done) | (simp only [HW1.out, Int.toNat_natCast]; rw [if_pos (by omega)]; with_reducible rfl) | (simp only [HW1.out]; done) | (simp only [HW1.out]; with_reducible rfl) | skip
    simp only [List.setIfInBounds_toArray, List.set_cons_zero, List.set_cons_succ]
    refine hold_two (i := 0) (j := 4) (by kernel_rfl) ?gn0 ?gn4
    case gn0 =>
      refine opH_value (i := 0) (d := 12) (listed' := #[true, true, true, false, false, true, true, false, false, false]) rfl rfl (by rfl) (by kernel_rfl) (v := .string tb) (w' := w1.drew) ?vn0 trivial ?_
      case vn0 => (go_simp; try with_reducible rfl)
      simp only [List.setIfInBounds_toArray, List.set_cons_zero, List.set_cons_succ]
      refine hold_take (i := 3) (d := 15) (v := ?vqn0x3) (listed' := #[true, true, true, true, false, true, true, false, false, false]) rfl (by kernel_rfl) (by kernel_rfl) (by kernel_rfl) rfl (by rfl) (by kernel_rfl) trivial ?hqn0x3 ?rqn0x3
      case hqn0x3 =>
        intro w' hSw
        clear hSw
        go_simp
        first | with_reducible rfl | (rw [if_neg (by omega)]; done) | (rw [if_neg (by omega)]; with_reducible rfl) | (rw [if_pos (by omega)]; done) | (rw [if_pos (by omega)]; with_reducible rfl) | (simp only [HW1.out, Int.toNat_natCast]; rw [if_pos (by omega)]; done) | (simp only [HW1.out, Int.toNat_natCast]; rw [if_pos (by omega)]; with_reducible rfl) | (simp only [HW1.out]; done) | (simp only [HW1.out]; with_reducible rfl) | skip
      simp only [List.setIfInBounds_toArray, List.set_cons_zero, List.set_cons_succ]
      refine hold_take (i := 8) (d := 3) (v := ?vqn0x8) (listed' := #[true, true, true, true, false, true, true, false, true, false]) rfl (by kernel_rfl) (by kernel_rfl) (by kernel_rfl) rfl (by rfl) (by kernel_rfl) trivial ?hqn0x8 ?rqn0x8
      case hqn0x8 =>
        intro w' hSw
        clear hSw
        go_simp
        first | with_reducible rfl | (rw [if_neg (by omega)]; done) | (rw [if_neg (by omega)]; with_reducible rfl) | (rw [if_pos (by omega)]; done) | (rw [if_pos (by omega)]; with_reducible rfl) | (simp only [HW1.out, Int.toNat_natCast]; rw [if_pos (by omega)]; done) | (simp only [HW1.out, Int.toNat_natCast]; rw [if_pos (by omega)]; with_reducible rfl) | (simp only [HW1.out]; done) | (simp only [HW1.out]; with_reducible rfl) | skip
      simp only [List.setIfInBounds_toArray, List.set_cons_zero, List.set_cons_succ]
      refine hold_value (i := 4) (d := 16) (listed' := #[true, true, true, true, true, true, true, false, true, false]) rfl (by kernel_rfl) rfl (by rfl) (by kernel_rfl) (v := .string tb) (w' := w1.drew) ?vn0n4 trivial ?_
      case vn0n4 => (go_simp; try with_reducible rfl)
      simp only [List.setIfInBounds_toArray, List.set_cons_zero, List.set_cons_succ]
      refine hold_take (i := 7) (d := 19) (v := ?vqn0n4x7) (listed' := #[true, true, true, true, true, true, true, true, true, false]) rfl (by kernel_rfl) (by kernel_rfl) (by kernel_rfl) rfl (by rfl) (by kernel_rfl) trivial ?hqn0n4x7 ?rqn0n4x7
      case hqn0n4x7 =>
        intro w' hSw
        clear hSw
        go_simp
        first | with_reducible rfl | (rw [if_neg (by omega)]; done) | (rw [if_neg (by omega)]; with_reducible rfl) | (rw [if_pos (by omega)]; done) | (rw [if_pos (by omega)]; with_reducible rfl) | (simp only [HW1.out, Int.toNat_natCast]; rw [if_pos (by omega)]; done) | (simp only [HW1.out, Int.toNat_natCast]; rw [if_pos (by omega)]; with_reducible rfl) | (simp only [HW1.out]; done) | (simp only [HW1.out]; with_reducible rfl) | skip
      simp only [List.setIfInBounds_toArray, List.set_cons_zero, List.set_cons_succ]
      refine hold_store (i := 9) (w' := w1.drew.setCell ⟨Bs, 0, none⟩ (.string (tb.extract (i + 1) tb.size))) (listed' := #[true, true, true, true, true, true, true, true, true, true]) rfl (by kernel_rfl) rfl (by rfl) (by kernel_rfl) ?sn0n4n9 trivial ?_
      case sn0n4n9 => (go_simp; try with_reducible rfl)
      refine hold_done (by kernel_rfl) ?_ _
      gi_wp2_with fail
      refine ⟨fun h => (by cases h), ?_⟩
      refine hRd.mono ?_
      rintro e W3 (⟨rfl, hJ3, hB3, hK3⟩ | ⟨rfl, hJ3, _⟩)
      · gi_wp2_with fail
        gi_roundg (tb.extract (i + 1) tb.size).size
        case measure => omega
        case rel => exact ⟨_, rfl, by omega, hB3.trans hb2, hJ3, by have := hK3.size; omega⟩
      · gi_wp2_with fail
        exact ⟨rfl, _, results_none rfl _ _ _, ⟨_, rfl⟩, .inr ⟨_, hJ3⟩⟩
    case gn4 =>
      refine opH_value (i := 4) (d := 16) (listed' := #[false, true, true, false, true, true, true, false, false, false]) rfl rfl (by rfl) (by kernel_rfl) (v := .string tb) (w' := w1.drew) ?vn4 trivial ?_
      case vn4 => (go_simp; try with_reducible rfl)
      simp only [List.setIfInBounds_toArray, List.set_cons_zero, List.set_cons_succ]
      refine hold_take (i := 7) (d := 19) (v := ?vqn4x7) (listed' := #[false, true, true, false, true, true, true, true, false, false]) rfl (by kernel_rfl) (by kernel_rfl) (by kernel_rfl) rfl (by rfl) (by kernel_rfl) trivial ?hqn4x7 ?rqn4x7
      case hqn4x7 =>
        intro w' hSw
        clear hSw
        go_simp
        first | with_reducible rfl | (rw [if_neg (by omega)]; done) | (rw [if_neg (by omega)]; with_reducible rfl) | (rw [if_pos (by omega)]; done) | (rw [if_pos (by omega)]; with_reducible rfl) | (simp only [HW1.out, Int.toNat_natCast]; rw [if_pos (by omega)]; done) | (simp only [HW1.out, Int.toNat_natCast]; rw [if_pos (by omega)]; with_reducible rfl) | (simp only [HW1.out]; done) | (simp only [HW1.out]; with_reducible rfl) | skip
      simp only [List.setIfInBounds_toArray, List.set_cons_zero, List.set_cons_succ]
      refine hold_value (i := 0) (d := 12) (listed' := #[true, true, true, false, true, true, true, true, false, false]) rfl (by kernel_rfl) rfl (by rfl) (by kernel_rfl) (v := .string tb) (w' := w1.drew) ?vn4n0 trivial ?_
      case vn4n0 => (go_simp; try with_reducible rfl)
      simp only [List.setIfInBounds_toArray, List.set_cons_zero, List.set_cons_succ]
      refine hold_take (i := 3) (d := 15) (v := ?vqn4n0x3) (listed' := #[true, true, true, true, true, true, true, true, false, false]) rfl (by kernel_rfl) (by kernel_rfl) (by kernel_rfl) rfl (by rfl) (by kernel_rfl) trivial ?hqn4n0x3 ?rqn4n0x3
      case hqn4n0x3 =>
        intro w' hSw
        clear hSw
        go_simp
        first | with_reducible rfl | (rw [if_neg (by omega)]; done) | (rw [if_neg (by omega)]; with_reducible rfl) | (rw [if_pos (by omega)]; done) | (rw [if_pos (by omega)]; with_reducible rfl) | (simp only [HW1.out, Int.toNat_natCast]; rw [if_pos (by omega)]; done) | (simp only [HW1.out, Int.toNat_natCast]; rw [if_pos (by omega)]; with_reducible rfl) | (simp only [HW1.out]; done) | (simp only [HW1.out]; with_reducible rfl) | skip
      simp only [List.setIfInBounds_toArray, List.set_cons_zero, List.set_cons_succ]
      refine hold_take (i := 8) (d := 3) (v := ?vqn4n0x8) (listed' := #[true, true, true, true, true, true, true, true, true, false]) rfl (by kernel_rfl) (by kernel_rfl) (by kernel_rfl) rfl (by rfl) (by kernel_rfl) trivial ?hqn4n0x8 ?rqn4n0x8
      case hqn4n0x8 =>
        intro w' hSw
        clear hSw
        go_simp
        first | with_reducible rfl | (rw [if_neg (by omega)]; done) | (rw [if_neg (by omega)]; with_reducible rfl) | (rw [if_pos (by omega)]; done) | (rw [if_pos (by omega)]; with_reducible rfl) | (simp only [HW1.out, Int.toNat_natCast]; rw [if_pos (by omega)]; done) | (simp only [HW1.out, Int.toNat_natCast]; rw [if_pos (by omega)]; with_reducible rfl) | (simp only [HW1.out]; done) | (simp only [HW1.out]; with_reducible rfl) | skip
      simp only [List.setIfInBounds_toArray, List.set_cons_zero, List.set_cons_succ]
      refine hold_store (i := 9) (w' := w1.drew.setCell ⟨Bs, 0, none⟩ (.string (tb.extract (i + 1) tb.size))) (listed' := #[true, true, true, true, true, true, true, true, true, true]) rfl (by kernel_rfl) rfl (by rfl) (by kernel_rfl) ?sn4n0n9 trivial ?_
      case sn4n0n9 => (go_simp; try with_reducible rfl)
      refine hold_done (by kernel_rfl) ?_ _
      gi_wp2_with fail
      refine ⟨fun h => (by cases h), ?_⟩
      refine hRd.mono ?_
      rintro e W3 (⟨rfl, hJ3, hB3, hK3⟩ | ⟨rfl, hJ3, _⟩)
      · gi_wp2_with fail
        gi_roundg (tb.extract (i + 1) tb.size).size
        case measure => omega
        case rel => exact ⟨_, rfl, by omega, hB3.trans hb2, hJ3, by have := hK3.size; omega⟩
      · gi_wp2_with fail
        exact ⟨rfl, _, results_none rfl _ _ _, ⟨_, rfl⟩, .inr ⟨_, hJ3⟩⟩
end Go.Proofs.YtjofkejfldmmlaaDoor
