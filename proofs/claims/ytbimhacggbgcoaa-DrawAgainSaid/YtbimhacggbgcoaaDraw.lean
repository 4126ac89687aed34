/- Contracts of what lies below a draw, over this program: may anything be drawn, how many bits and words a try has, by the code and by the document. -/
import Derived.Test.YtbimhacggbgcoaaCanon
namespace Go.Proofs.Ytbimhacggbgcoaa
open Go.RowKit

def mayB (b : List Int) : Bool := right b && b.length != 0
/-- How many bits the bound less 1 has. -/
def kN (b : List Int) : Nat := if mayB b then (bitsS (M.canon (M.val b - 1).toNat)).toNat else 0
/-- How many words a try has. -/
def nN (b : List Int) : Nat := (kN b + 31) / 32
theorem kN_le (b : List Int) : kN b ≤ 1024 := by
  unfold kN; split
  · have := bitsS_bd (M.lim_canon (M.val b - 1).toNat); omega
  · omega
theorem mayB_parts {b : List Int} (h : mayB b = true) : right b = true ∧ b.length ≠ 0 := by
  unfold mayB at h; rw [Bool.and_eq_true] at h; exact ⟨h.1, by have := h.2; rw [bne_iff_ne] at this; exact this⟩
theorem kN_may {b : List Int} (h : mayB b = true) : bitsS (M.canon (M.val b - 1).toNat) = (kN b : Int) := by
  unfold kN; rw [if_pos h]; have := bitsS_bd (M.lim_canon (M.val b - 1).toNat); omega
theorem kN_not {b : List Int} (h : mayB b = false) : kN b = 0 := by unfold kN; rw [h]; rfl

theorem mayBound_any (A : Option Addr) (c : Nat) (b : List Int) (w : World) (hr : Rd w w.heap.size A b) (hl : b.length ≤ 9223372036854775807) :
    Calls Try.prog 15 #[.slice A b.length c] w fun e w' => e = .returned (.bool (mayB b)) ∧ w = w' := by
  have C1 := nright_any A c w.heap.size b w hr hl
  by_cases h1 : right b = true
  · by_cases h0 : b.length = 0
    · have E : Hid (mayB b = false) := by show mayB b = false; unfold mayB; rw [h1, h0]; rfl
      rw [h1] at C1
      have D := hide C1
      have hf : ¬ (0 : Int) < (b.length : Int) := by omega
      generalize b.length = n at *
      clear h1 C1 h0 hr
      go_enter Try.func15, Try.ntmps15
      go_wp2_with fail
      refine D.out.mono ?_; rintro e w' ⟨rfl, rfl⟩
      go_wp2
      go_ret
      exact ⟨ret_bool (by rw [E.out]; simp; omega), rfl⟩
    · have E : Hid (mayB b = true) := by show mayB b = true; unfold mayB; rw [h1]; simpa using h0
      rw [h1] at C1
      have D := hide C1
      have hf : (0 : Int) < (b.length : Int) := by omega
      generalize b.length = n at *
      clear h1 C1 h0 hr
      go_enter Try.func15, Try.ntmps15
      go_wp2_with fail
      refine D.out.mono ?_; rintro e w' ⟨rfl, rfl⟩
      go_wp2
      go_ret
      exact ⟨ret_bool (by rw [E.out]; simp; omega), rfl⟩
  · have h1 : right b = false := by simpa using h1
    have E : Hid (mayB b = false) := by show mayB b = false; unfold mayB; rw [h1]; rfl
    rw [h1] at C1
    have D := hide C1
    clear h1 C1 hr
    go_enter Try.func15, Try.ntmps15
    go_wp2_with fail
    refine D.out.mono ?_; rintro e w' ⟨rfl, rfl⟩
    go_wp2
    go_ret
    exact ⟨ret_bool (by rw [E.out]), rfl⟩

set_option maxHeartbeats 400000 in
theorem bitsBelow_any (A : Option Addr) (c : Nat) (b : List Int) (w : World) (hr : Rd w w.heap.size A b) (hb : M.Lim b) (hc : b.length ≤ c) (hcm : c ≤ 9223372036854775807) :
    Calls Try.prog 16 #[.slice A b.length c] w fun e w' => e = .returned (.int .i64 (kN b : Int)) ∧ Below w.heap.size w w' := by
  have C1 := mayBound_any A c b w hr (by omega)
  by_cases h1 : mayB b = true
  · obtain ⟨hr1, h0⟩ := mayB_parts h1
    rw [h1] at C1
    have O := fun W : World => nof_any 1 W (by omega) (by omega)
    rw [show M.canon (1 : Int).toNat = [1] from C.one (by omega) (by omega)] at O
    have S := hide (fun (W : World) (A' : Option Addr) (c' : Nat) (h : Rd W W.heap.size A b) (h' : Rd W W.heap.size A' [1]) (e1 : 1 ≤ c') (e2 : c' ≤ 9223372036854775807) => by
      have q := nsub_any A A' c c' W.heap.size b [1] W h h' hb (M.Lim.cons (by omega) (by omega) M.Lim.nil) hc e1 hcm e2 (Nat.le_refl _)
      rw [C.less hb hr1 h0] at q; exact q)
    have BT := hide (fun (W : World) (A' : Option Addr) (c' : Nat) (h : Rd W W.heap.size A' (M.canon (M.val b - 1).toNat)) (e1 : (M.canon (M.val b - 1).toNat).length ≤ c') (e2 : c' ≤ 9223372036854775807) => by
      have q := nbits_any A' c' W.heap.size _ W h (M.lim_canon _) e1 e2
      rw [kN_may h1] at q; exact q)
    generalize M.canon (M.val b - 1).toNat = ls at *
    have D := hide C1
    have OH := hide O
    have HR := hide hr
    clear C1 h1 hr1 hr O
    go_enter Try.func16, Try.ntmps16
    go_wp2_with fail
    refine D.out.mono ?_; rintro e w' ⟨rfl, rfl⟩
    go_wp2_with fail
    refine (OH.out w).mono ?_; rintro e w1 ⟨A1, c1, rfl, m1, m2, m3, b1⟩
    go_wp2_with fail
    refine (S.out w1 A1 c1 (HR.out.up b1) m3 m1 m2).mono ?_; rintro e w2 ⟨A2, c2, rfl, n1, n2, n3, b2⟩
    go_wp2_with fail
    refine (BT.out w2 A2 c2 n3 n1 n2).mono ?_; rintro e w3 ⟨rfl, q, hq⟩
    have hw3 : Below w.heap.size w w3 := by rw [hq]; exact below_drewN (b1.trans (b2.mono b1.size)) _
    clear hq
    go_wp2
    go_ret
    exact ⟨rfl, hw3⟩
  · have h1 : mayB b = false := by simpa using h1
    have E : Hid (kN b = 0) := kN_not h1
    rw [h1] at C1
    have D := hide C1
    clear C1 h1 hr
    go_enter Try.func16, Try.ntmps16
    go_wp2_with fail
    refine D.out.mono ?_; rintro e w' ⟨rfl, rfl⟩
    go_wp2
    go_ret
    exact ⟨ret_int (by rw [E.out]; rfl), Below.refl _ _⟩

theorem need_any (A : Option Addr) (c : Nat) (b : List Int) (w : World) (hr : Rd w w.heap.size A b) (hb : M.Lim b) (hc : b.length ≤ c) (hcm : c ≤ 9223372036854775807) :
    Calls Try.prog 11 #[.slice A b.length c] w fun e w' => e = .returned (.int .i64 (nN b : Int)) ∧ Below w.heap.size w w' := by
  have D := hide (bitsBelow_any A c b w hr hb hc hcm)
  have hk := kN_le b
  have E : Hid ((nN b : Int) = ((kN b : Int) + 31) / 32) := by show (nN b : Int) = _; unfold nN; omega
  clear hr
  generalize kN b = k at *
  go_enter Try.func11, Try.ntmps11
  go_wp2_with fail
  refine D.out.mono ?_; rintro e w' ⟨rfl, hw⟩
  go_wp2
  go_ret
  exact ⟨ret_int (by rw [E.out]; omega), hw⟩

set_option maxHeartbeats 400000 in
theorem rbits2_any (A : Option Addr) (c : Nat) (b : List Int) (w : World) (hr : Rd w w.heap.size A b) (hb : M.Lim b) (hc : b.length ≤ c) (hcm : c ≤ 9223372036854775807) :
    Calls Try.prog 21 #[.slice A b.length c] w fun e w' => e = .returned (.int .i64 (kN b : Int)) ∧ Below w.heap.size w w' := by
  have hu := UB.new w [1]
  have hb1 : Below w.heap.size w (w.alloc (.cells (([1] : List Int).map (Value.int .u32)).toArray 34)) := (Below.refl _ _).alloc (Nat.le_refl _) _
  have S := rsub_any A (some ⟨w.heap.size, 0, none⟩) c 1 (w.heap.size + 1) b [1] _ (((hr.below hb1 (Nat.le_refl _)).more (by omega))) (hu.rd0 (by omega)) hb (M.Lim.cons (by omega) (by omega) M.Lim.nil) hc (by simp) hcm (by omega) (by simp)
  by_cases h1 : mayB b = true
  · obtain ⟨hr1, h0⟩ := mayB_parts h1
    rw [C.less hb hr1 h0] at S
    have BT := hide (fun (W : World) (A' : Option Addr) (c' : Nat) (h : Rd W W.heap.size A' (M.canon (M.val b - 1).toNat)) (e1 : (M.canon (M.val b - 1).toNat).length ≤ c') (e2 : c' ≤ 9223372036854775807) => by
      have q := rbits_any A' c' W.heap.size _ W h (M.lim_canon _) e1 e2
      rw [kN_may h1] at q; exact q)
    generalize M.canon (M.val b - 1).toNat = ls at *
    have D := hide S
    have HB := hide hb1
    clear S h1 hr1 hr hu hb1
    go_enter Try.func21, Try.ntmps21
    go_wp2_with fail
    refine D.out.mono ?_; rintro e w2 ⟨A2, c2, rfl, n1, n2, n3, b2⟩
    go_wp2_with fail
    refine (BT.out w2 A2 c2 n3 n1 n2).mono ?_; rintro e w3 ⟨rfl, rfl⟩
    go_wp2
    go_ret
    exact ⟨rfl, HB.out.trans (b2.mono HB.out.size)⟩
  · have h1 : mayB b = false := by simpa using h1
    have E : Hid (kN b = 0) := kN_not h1
    have hs : ∃ er : Int, subS b [1] = ([], er) ∧ er ≠ 0 := by
      unfold mayB at h1
      unfold subS
      by_cases hr1 : right b = true
      · rw [hr1] at h1 ⊢
        have h0 : b.length = 0 := by simpa using h1
        obtain rfl := List.eq_nil_of_length_eq_zero h0
        exact ⟨11, by decide, by omega⟩
      · have hr1 : right b = false := by simpa using hr1
        rw [hr1]; exact ⟨1, rfl, by omega⟩
    obtain ⟨er, hs, he⟩ := hs
    rw [hs] at S
    have he' : (er != 0) = true := by rw [bne_iff_ne]; exact he
    have D := hide S
    have HB := hide hb1
    clear S h1 hr hu hb1 hs he
    go_enter Try.func21, Try.ntmps21
    go_wp2_with fail
    refine D.out.mono ?_; rintro e w2 ⟨A2, c2, rfl, n1, n2, n3, b2⟩
    go_wp2
    go_ret
    exact ⟨ret_int (by rw [E.out]; rfl), HB.out.trans (b2.mono HB.out.size)⟩

theorem rneed_any (A : Option Addr) (c : Nat) (b : List Int) (w : World) (hr : Rd w w.heap.size A b) (hb : M.Lim b) (hc : b.length ≤ c) (hcm : c ≤ 9223372036854775807) :
    Calls Try.prog 12 #[.slice A b.length c] w fun e w' => e = .returned (.int .i64 (nN b : Int)) ∧ Below w.heap.size w w' := by
  have D := hide (rbits2_any A c b w hr hb hc hcm)
  have hk := kN_le b
  have E : Hid ((nN b : Int) = ((kN b : Int) + 31) / 32) := by show (nN b : Int) = _; unfold nN; omega
  clear hr
  generalize kN b = k at *
  go_enter Try.func12, Try.ntmps12
  go_wp2_with fail
  refine D.out.mono ?_; rintro e w' ⟨rfl, hw⟩
  go_wp2
  go_ret
  exact ⟨ret_int (by rw [E.out]), hw⟩
end Go.Proofs.Ytbimhacggbgcoaa
