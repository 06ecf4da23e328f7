/- Draws of a logic, and of a logic and two answers. -/
import Derived.Test.YtijcacibofpnpaaDn
namespace Go.Proofs.Ytijcacibofpnpaa
open Go.RowKit Go.Deep

set_option maxHeartbeats 1000000 in
theorem draw_BothWaysOk {A : Option Addr} {b o n cap : Nat} {z : Nat → Nat} {w : World} (h : CodeAt w A b o n cap z) :
    Calls Try.prog 20 #[.slice A n cap] w (DrewL w) := by
  have hT := TwoAt.new w (.slice none 0 0) (.slice none 0 0) 26
  have hbA := (Below.refl w.heap.size w).alloc (Nat.le_refl _) (.cells #[.slice none 0 0, .slice none 0 0] 26)
  have hc := h.alloc (.cells #[.slice none 0 0, .slice none 0 0] 26)
  go_enter Try.func20, Try.ntmps20
  go_wp2_with fail
  go_at_call 44
  refine (l20Open_any hc).mono ?_
  rintro e w1 ⟨A1, b1, o1, n1, c1, z1, rfl, hn1, hR, hz, hb, hs⟩
  have hsA : (w.alloc (.cells #[.slice none 0 0, .slice none 0 0] 26)).heap.size = w.heap.size + 1 := by simp
  have hT1 := hT.below hb (by omega)
  rw [hsA] at hR hz hs
  have hs' : w.heap.size + 1 < w1.heap.size := by omega
  clear h hc hT hs
  go_wp2_with fail
  go_at_call 51
  refine (l20Logic_any (by omega) (by omega) (by omega) hn1 hR hz (Nat.le_refl _) hs').mono ?_
  rintro e w2 ⟨ua, l, m, na, g, o2, k, nc, zz, p, rfl, hlog, hf, hg, hn, hL, hk, _, _, hC⟩
  have hT2 := hC.two hT1 (by show ¬ (w.heap.size = w.heap.size + 1); omega)
  have hF : Fresh (w.alloc (.cells #[.slice none 0 0, .slice none 0 0] 26)) ua l m na g o2 k zz w2 := ⟨hlog, ⟨fun r hr => by have := hf.top r hr; omega, fun r hr c hc => by have := hf.row r hr c hc; omega⟩, fun h0 => by have := hg h0; omega, hn, hL, hk, hb.trans (hC.below (by omega) fun j hj => by have hj' : j = w.heap.size + 1 := hj; omega)⟩
  have hall := Lib.hid (hF.put hbA (by omega) (.slice ua m.n l.cap) (.slice na k nc))
  have hfin := (hT2.set0 (.slice ua m.n l.cap)).set1 (.slice na k nc)
  have t0 := hfin.c0
  have t1 := hfin.c1
  have e0 := hT2.c0
  have e1 := hT2.c1
  have e2 := hT2.f0
  have e3 := hT2.f1
  clear hF hlog hf hC hT1 hT2 hfin hb hR hz
  go_wp2_with fail
  exact bodyPost_ret (v := .agg #[.slice ua m.n l.cap, .slice na k nc]) (by simp [results, Try.results20, go_sem, t0, t1]) rfl ⟨ua, l, m, na, g, o2, k, nc, zz, rfl, hall.out⟩

set_option maxHeartbeats 1000000 in
theorem draw_WithOk {A : Option Addr} {b o n cap : Nat} {z : Nat → Nat} {w : World} (h : CodeAt w A b o n cap z) :
    Calls Try.prog 12 #[.slice A n cap] w (DrewT w) := by
  have hT := TwoAt.new w (.slice none 0 0) (.slice none 0 0) 26
  have hbA := (Below.refl w.heap.size w).alloc (Nat.le_refl _) (.cells #[.slice none 0 0, .slice none 0 0] 26)
  have hc := h.alloc (.cells #[.slice none 0 0, .slice none 0 0] 26)
  go_enter Try.func12, Try.ntmps12
  go_wp2_with fail
  go_at_call 44
  refine (l20Open_any hc).mono ?_
  rintro e w1 ⟨A1, b1, o1, n1, c1, z1, rfl, hn1, hR, hz, hb, hs⟩
  have hsA : (w.alloc (.cells #[.slice none 0 0, .slice none 0 0] 26)).heap.size = w.heap.size + 1 := by simp
  have hT1 := hT.below hb (by omega)
  rw [hsA] at hR hz hs
  have hs' : w.heap.size + 1 < w1.heap.size := by omega
  clear h hc hT hs
  go_wp2_with fail
  go_at_call 43
  refine (l20Two_any (by omega) (by omega) hn1 hR hz (Nat.le_refl _) hs').mono ?_
  rintro e w2 ⟨ua, l, m, na, g, o2, k, nc, zz, x, y, rfl, hlog, hf, hg, hn, hL, hk, hC⟩
  have hT2 := hC.two hT1 (by show ¬ (w.heap.size = w.heap.size + 1); omega)
  have hF : Fresh (w.alloc (.cells #[.slice none 0 0, .slice none 0 0] 26)) ua l m na g o2 k zz w2 := ⟨hlog, ⟨fun r hr => by have := hf.top r hr; omega, fun r hr c hc => by have := hf.row r hr c hc; omega⟩, fun h0 => by have := hg h0; omega, hn, hL, hk, hb.trans (hC.below (by omega) fun j hj => by have hj' : j = w.heap.size + 1 := hj; omega)⟩
  have hall := Lib.hid (hF.put hbA (by omega) (.slice ua m.n l.cap) (.slice na k nc))
  have hfin := (hT2.set0 (.slice ua m.n l.cap)).set1 (.slice na k nc)
  have t0 := hfin.c0
  have t1 := hfin.c1
  have e0 := hT2.c0
  have e1 := hT2.c1
  have e2 := hT2.f0
  have e3 := hT2.f1
  clear hF hlog hf hC hT1 hT2 hfin hb hR hz
  go_wp2_with fail
  exact bodyPost_ret (v := .tuple #[.agg #[.slice ua m.n l.cap, .slice na k nc], .int .i64 x, .int .i64 y]) (by simp [results, Try.results12, go_sem, t0, t1]) rfl ⟨ua, l, m, na, g, o2, k, nc, zz, x, y, rfl, hall.out⟩

set_option maxHeartbeats 1000000 in
theorem draw_ApartFrom {A : Option Addr} {b o n cap : Nat} {z : Nat → Nat} {w : World} (h : CodeAt w A b o n cap z) :
    Calls Try.prog 26 #[.slice A n cap] w (DrewT w) := by
  have hT := TwoAt.new w (.slice none 0 0) (.slice none 0 0) 26
  have hbA := (Below.refl w.heap.size w).alloc (Nat.le_refl _) (.cells #[.slice none 0 0, .slice none 0 0] 26)
  have hc := h.alloc (.cells #[.slice none 0 0, .slice none 0 0] 26)
  go_enter Try.func26, Try.ntmps26
  go_wp2_with fail
  go_at_call 44
  refine (l20Open_any hc).mono ?_
  rintro e w1 ⟨A1, b1, o1, n1, c1, z1, rfl, hn1, hR, hz, hb, hs⟩
  have hsA : (w.alloc (.cells #[.slice none 0 0, .slice none 0 0] 26)).heap.size = w.heap.size + 1 := by simp
  have hT1 := hT.below hb (by omega)
  rw [hsA] at hR hz hs
  have hs' : w.heap.size + 1 < w1.heap.size := by omega
  clear h hc hT hs
  go_wp2_with fail
  go_at_call 43
  refine (l20Two_any (by omega) (by omega) hn1 hR hz (Nat.le_refl _) hs').mono ?_
  rintro e w2 ⟨ua, l, m, na, g, o2, k, nc, zz, x, y, rfl, hlog, hf, hg, hn, hL, hk, hC⟩
  have hT2 := hC.two hT1 (by show ¬ (w.heap.size = w.heap.size + 1); omega)
  have hF : Fresh (w.alloc (.cells #[.slice none 0 0, .slice none 0 0] 26)) ua l m na g o2 k zz w2 := ⟨hlog, ⟨fun r hr => by have := hf.top r hr; omega, fun r hr c hc => by have := hf.row r hr c hc; omega⟩, fun h0 => by have := hg h0; omega, hn, hL, hk, hb.trans (hC.below (by omega) fun j hj => by have hj' : j = w.heap.size + 1 := hj; omega)⟩
  have hall := Lib.hid (hF.put hbA (by omega) (.slice ua m.n l.cap) (.slice na k nc))
  have hfin := (hT2.set0 (.slice ua m.n l.cap)).set1 (.slice na k nc)
  have t0 := hfin.c0
  have t1 := hfin.c1
  have e0 := hT2.c0
  have e1 := hT2.c1
  have e2 := hT2.f0
  have e3 := hT2.f1
  clear hF hlog hf hC hT1 hT2 hfin hb hR hz
  go_wp2_with fail
  exact bodyPost_ret (v := .tuple #[.agg #[.slice ua m.n l.cap, .slice na k nc], .int .i64 x, .int .i64 y]) (by simp [results, Try.results26, go_sem, t0, t1]) rfl ⟨ua, l, m, na, g, o2, k, nc, zz, x, y, rfl, hall.out⟩

end Go.Proofs.Ytijcacibofpnpaa
