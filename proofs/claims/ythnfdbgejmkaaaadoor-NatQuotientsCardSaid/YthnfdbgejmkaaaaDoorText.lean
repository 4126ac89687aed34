/- Contract of nat's Text over this program: a number's decimal digits. -/
import Derived.Test.YthnfdbgejmkaaaaDoorGroups
import Derived.Test.YthnfdbgejmkaaaaDoorRefParse
import Derived.Lib.Repeat
namespace Go.Proofs.YthnfdbgejmkaaaaDoor
open Go.RowKit

/-- A number's digits, behind as many noughts as k places take. -/
def pad (k r : Nat) : List UInt8 := List.replicate (k - Lib.nDigits r) 48 ++ Lib.decDigits r
theorem decDigits_step (q r : Nat) (hq : 1 ≤ q) (hr : r < 10) : Lib.decDigits (q * 10 + r) = Lib.decDigits q ++ [UInt8.ofNat (48 + r)] := by
  rw [Lib.decDigits, dif_neg (by omega), show (q * 10 + r) / 10 = q by omega, show (q * 10 + r) % 10 = r by omega]
theorem pad_succ (k r : Nat) (hk : 1 ≤ k) : pad (k + 1) r = pad k (r / 10) ++ [UInt8.ofNat (48 + r % 10)] := by
  unfold pad
  by_cases h : r < 10
  · have e0 : r / 10 = 0 := by omega
    have e1 : r % 10 = r := by omega
    rw [e0, e1, Lib.nDigits_small h, Lib.nDigits_small (by omega : 0 < 10), Lib.decDigits_one h, Lib.decDigits_one (by omega : 0 < 10)]
    obtain ⟨j, rfl⟩ : ∃ j, k = j + 1 := ⟨k - 1, by omega⟩
    rw [show j + 1 + 1 - 1 = j + 1 by omega, show j + 1 - 1 = j by omega, List.replicate_succ']; rfl
  · rw [Lib.nDigits_big h, show k + 1 - (Lib.nDigits (r / 10) + 1) = k - Lib.nDigits (r / 10) by omega, List.append_assoc]
    congr 1
    rw [Lib.decDigits, dif_neg h]
theorem decDigits_pad (k q : Nat) (hq : 1 ≤ q) : ∀ r, r < 10 ^ (k + 1) → Lib.decDigits (q * 10 ^ (k + 1) + r) = Lib.decDigits q ++ pad (k + 1) r := by
  induction k with
  | zero =>
    intro r hr
    have hr' : r < 10 := by simpa using hr
    rw [Nat.pow_one, decDigits_step q r hq hr']
    unfold pad; rw [Lib.nDigits_small hr', Lib.decDigits_one hr']; rfl
  | succ k ih =>
    intro r hr
    have e : q * 10 ^ (k + 1 + 1) + r = (q * 10 ^ (k + 1) + r / 10) * 10 + r % 10 := by rw [Nat.pow_succ, ← Nat.mul_assoc]; omega
    have hp : 1 ≤ 10 ^ (k + 1) := Nat.one_le_pow _ _ (by omega)
    have hq2 : 1 * 1 ≤ q * 10 ^ (k + 1) := Nat.mul_le_mul hq hp
    rw [e, decDigits_step _ _ (by omega) (by omega), ih (r / 10) (by rw [Nat.pow_succ] at hr; omega), pad_succ (k + 1) r (by omega), List.append_assoc]
theorem nDigits_le {k r : Nat} (h : r < 10 ^ (k + 1)) : Lib.nDigits r ≤ k + 1 := by
  induction k generalizing r with
  | zero => rw [Lib.nDigits_small (by simpa using h)]; exact Nat.le_refl _
  | succ k ih =>
    by_cases e : r < 10
    · rw [Lib.nDigits_small e]; omega
    · rw [Lib.nDigits_big e]; have := ih (r := r / 10) (by rw [Nat.pow_succ] at h; omega); omega
theorem decDigits_group (n i : Nat) (h : i + 1 < (gB n).length) : Lib.decDigits (n / 1000000000 ^ i) = Lib.decDigits (n / 1000000000 ^ (i + 1)) ++ pad 9 (n / 1000000000 ^ i % 1000000000) := by
  have h1 := gB_length.1 h
  have e : n / 1000000000 ^ i = n / 1000000000 ^ (i + 1) * 10 ^ (8 + 1) + n / 1000000000 ^ i % 1000000000 := by
    rw [Nat.pow_succ, ← Nat.div_div_eq_div_mul]; omega
  have hq : 1 ≤ n / 1000000000 ^ (i + 1) := (Nat.le_div_iff_mul_le (Nat.pow_pos (by omega))).2 (by omega)
  have hp := decDigits_pad 8 (n / 1000000000 ^ (i + 1)) hq (n / 1000000000 ^ i % 1000000000) (by omega)
  rw [← e] at hp
  exact hp

theorem repeat_one (c : Nat) : Lib.repeatL [48] c = List.replicate c 48 := by
  induction c with
  | zero => rfl
  | succ c ih => rw [Lib.repeatL, ih, List.replicate_succ]; rfl

theorem builder_below {T e : TypeId} {B b : Nat} {p : Value} {bs : List Value} {w w' : World} (h : Lib.BuilderAt T e B b p bs w) (hb : Below w.heap.size w w') : Lib.BuilderAt T e B b p bs w' := by
  obtain ⟨hB, v, hbk, hown, hne⟩ := h
  have hlt : b < w.heap.size := by
    rcases Nat.lt_or_ge b w.heap.size with h' | h'
    · exact h'
    · simp [Array.getElem?_eq_none h'] at hbk
  exact ⟨hB, v, (hb.block b hlt).trans hbk, World.ownsRow.kept hown (only_below hb none) (by
    rcases hv : v.ownBlock with _ | g
    · exact .inl rfl
    · right; simp), hne⟩

def textS (xs : List Int) : List UInt8 := if right xs then Lib.decDigits (M.val xs).toNat else []

/-- What is answered: a text; new memory alone. -/
def RetS (l : List UInt8) (w : World) (e : Ending) (w' : World) : Prop := e = .returned (.string ⟨l.toArray⟩) ∧ Below w.heap.size w w'

theorem cells_append (a b : List UInt8) : Lib.byteCells a ++ Lib.strCells ⟨b.toArray⟩ = Lib.byteCells (a ++ b) := by
  rw [Lib.strCells_eq, Lib.byteCells_append]

set_option maxHeartbeats 2000000 in
set_option maxRecDepth 100000 in
theorem ntext_any (A : Option Addr) (ca B : Nat) (xs : List Int) (w : World) (hra : Rd w B A xs) (hx : M.Lim xs) (hxc : xs.length ≤ ca) (hca : ca ≤ 9223372036854775807) (hB : B ≤ w.heap.size) (htab : Tab w) :
    Calls Tryd.prog 32 #[.slice A xs.length ca] w (RetS (textS xs) w) := by
  have C1 := nright_any A ca B xs w hra (by omega)
  by_cases h1 : right xs = true
  · rw [h1] at C1
    have l1 := right_len h1
    have hcan : xs = M.canon (M.val xs).toNat := M.canon_of_last hx (by
      unfold right at h1; simp at h1
      rcases h1 with h1 | h1
      · exact .inl h1
      · right; simpa [List.getD] using h1.2)
    have hS : textS xs = Lib.decDigits (M.val xs).toNat := by unfold textS; rw [if_pos h1]
    rw [hS]
    have C2 := groupsOf_any A ca B (M.val xs).toNat w (by rw [← hcan]; exact hra) (by rw [← hcan]; exact l1) hB
    have hn309 : (M.val xs).toNat < 10 ^ (308 + 1) := by
      have h2 := (M.canon_length_le (n := (M.val xs).toNat) (k := 32)).1 (by rw [← hcan]; exact l1)
      have h3 : M.pw 32 ≤ ((10 ^ (308 + 1) : Nat) : Int) := by unfold M.pw; decide +kernel
      omega
    rw [← hcan] at C2
    generalize (M.val xs).toNat = n at *
    have HNN := hide hn309
    clear hn309
    have D1 := hide C1
    have D2 := hide C2
    have HT := hide htab
    clear hS C1 C2 h1 hcan hra hx htab
    go_enter Tryd.func32, Tryd.ntmps32
    go_wp2_with fail
    refine D1.out.mono ?_; rintro e w' ⟨rfl, rfl⟩
    go_wp2_with fail
    refine D2.out.mono ?_; rintro e w1 ⟨v, rfl, ho, hb⟩
    obtain ⟨Ag, cg, rfl, hg1, hg2, hg3⟩ := ho.form
    have HT1 := hide (HT.out.below hb)
    clear ho
    by_cases hn0 : n = 0
    · subst hn0
      rw [gB_zero]
      go_wp2
      go_ret
      exact ⟨by rw [Lib.decDigits_one (by omega)]; rfl, hb⟩
    · obtain ⟨k, hk⟩ : ∃ k, (gB n).length = k + 1 := ⟨(gB n).length - 1, by
        have : (gB n).length ≠ 0 := by rw [gB_pos hn0]; simp
        omega⟩
      rw [hk] at hg1 ⊢
      obtain ⟨g, o, rfl, hgb, hcells⟩ := hg3 (by omega)
      have hkb : k + 1 ≤ 9223372036854775807 := by unfold maxLen at hg2; omega
      have hck := hcells k (by omega)
      rw [gB_getD] at hck
      have hk0 : ((k : Int) + 1 == 0) = false := by simp; omega
      have hz : n / 1000000000 ^ k % 1000000000 = n / 1000000000 ^ k := by
        have h2 : ¬ 1000000000 ^ (k + 1) ≤ n := fun hc => by have := gB_length.2 hc; omega
        rw [Nat.pow_succ] at h2
        exact Nat.mod_eq_of_lt (Nat.div_lt_of_lt_mul (by omega))
      rw [hz] at hck
      have hzb : n / 1000000000 ^ k < 1000000000 := by omega
      have HK := hide hk
      have HZ : Hid (∀ z, z = n / 1000000000 ^ k → z < 1000000000) := fun z h => by omega
      generalize hzz : n / 1000000000 ^ k = z at *
      have HZZ := hide hzz
      have HCL := hide hcells
      have hck2 : (w1.alloc (.cells #[.pointer none, .slice none 0 0] 61)).cell? ⟨g, o + k, none⟩ = some (.int .u32 (z : Int)) := (World.cell?_alloc_lt w1 _ ⟨g, o + k, none⟩ hgb).trans hck
      have hba : Below w1.heap.size w1 (w1.alloc (.cells #[.pointer none, .slice none 0 0] 61)) := (Below.refl _ _).alloc (Nat.le_refl _) _
      have DG := hide (digits_any z (by omega) _ (HT1.out.below hba))
      clear hk hz hzz hcells hn0 hg3 hck
      go_wp2_with fail
      refine DG.out.mono ?_
      rintro e w3 ⟨rfl, hb3⟩
      have hw3 : Below w1.heap.size w1 w3 := hba.trans (hb3.mono (by simp))
      have hbu : Lib.IsBuilder 61 5 w1.heap.size w1.heap.size [] w3 := .inl ⟨Nat.le_refl _, .slice none 0 0, (hb3.block w1.heap.size (by simp)).trans (heap_alloc_new w1 _), World.ownsRow_nil _ _ _ _, by simp [Value.ownBlock]⟩
      have hdz : (Lib.decDigits z).length ≤ 10 := by rw [Lib.decDigits_length]; have := nDigits_le (k := 8) (r := z) (by omega); omega
      have WS := hide (writeString_any w1.heap.size w1.heap.size [] ⟨(Lib.decDigits z).toArray⟩ w3 hbu (by rw [← bytes_len]; simp; omega) hw3.size)
      go_wp2_with fail
      refine WS.out.mono ?_
      rintro e w4 ⟨rfl, hbu4, hb4⟩
      rw [List.nil_append, show Lib.strCells ⟨(Lib.decDigits z).toArray⟩ = Lib.byteCells (Lib.decDigits z) from Lib.strCells_eq _] at hbu4
      have hw4 : Below w1.heap.size w1 w4 := hw3.trans hb4
      have HBU := hide hbu4
      clear hbu4 hck2
      go_wp2_with fail
      go_loopw [6] (fun vi wr => ∃ (i : Int) (j : Nat), -1 ≤ i ∧ i + 1 = j ∧ j ≤ k ∧ vi = .int .i64 i ∧ Lib.BuilderAt 61 5 w1.heap.size w1.heap.size (.pointer (some ⟨w1.heap.size, 0, none⟩)) (Lib.byteCells (Lib.decDigits (n / 1000000000 ^ j))) wr ∧ Below w1.heap.size w1 wr) (fun vi _ => (intOf vi + 1).toNat)
      case atStart => exact ⟨(k : Int) - 1, k, by omega, by omega, Nat.le_refl _, rfl, by rw [HZZ.out]; exact HBU.out, hw4⟩
      case round =>
        obtain ⟨i, j, hi, hij, hj, rfl, hbld, hbr⟩ := hrel
        by_cases hlt : 0 ≤ i
        · obtain ⟨m, rfl⟩ := Int.eq_ofNat_of_zero_le hlt
          obtain rfl : j = m + 1 := by omega
          have hcm := (hbr.cell (p := ⟨g, o + m, none⟩) hgb).trans (HCL.out m (by have := HK.out; omega))
          rw [gB_getD] at hcm
          have hgr := decDigits_group n m (by have := HK.out; omega)
          generalize hr : n / 1000000000 ^ m % 1000000000 = r at *
          have hr9 : r < 1000000000 := by omega
          have hTr := HT1.out.below hbr
          have DG2 := hide (digits_any r (by omega) wr hTr)
          have hnd := nDigits_le (k := 8) (r := r) (by omega)
          have hdl := Lib.decDigits_length r
          have hsz : ((⟨(Lib.decDigits r).toArray⟩ : ByteArray).size : Int) = (Lib.nDigits r : Int) := by rw [← bytes_len]; simp [hdl]
          have hlr : (Lib.decDigits (n / 1000000000 ^ (m + 1))).length ≤ 309 := by
            rw [Lib.decDigits_length]
            exact nDigits_le (k := 308) (Nat.lt_of_le_of_lt (Nat.div_le_self _ _) HNN.out)
          go_wp2_with fail
          refine DG2.out.mono ?_
          rintro e w5 ⟨rfl, hb5⟩
          have hbld5 := builder_below hbld hb5
          have hbr5 := hbr.trans (hb5.mono hbr.size)
          have hc9 : (9 : Int) - (Lib.nDigits r : Int) = ((9 - Lib.nDigits r : Nat) : Int) := by omega
          have RP := Tryd.strings_Repeat ⟨#[48]⟩ (9 - Lib.nDigits r) w5 (by omega) (by show 1 * _ ≤ _; omega)
          rw [← hc9, repeat_one] at RP
          have HRP := hide RP
          have HHR := hide hgr
          have HBL5 := hide hbld5
          clear RP hc9 hgr hbld hbld5 hsz hr hcm
          go_wp2_with fail
          refine HRP.out.mono ?_
          rintro e w6 ⟨rfl, hb6⟩
          have hbld6 := builder_below HBL5.out hb6
          have hbr6 := hbr5.trans (hb6.mono hbr5.size)
          have W2 := hide (writeString_any w1.heap.size w1.heap.size _ ⟨(List.replicate (9 - Lib.nDigits r) 48).toArray⟩ w6 (.inr hbld6) (by rw [Lib.byteCells_length, ← bytes_len]; simp; omega) hbr6.size)
          clear hbld6
          go_wp2_with fail
          refine W2.out.mono ?_
          rintro e w7 ⟨rfl, hbu7, hb7⟩
          rw [cells_append] at hbu7
          have hbr7 := hbr6.trans hb7
          have W3 := hide (writeString_any w1.heap.size w1.heap.size _ ⟨(Lib.decDigits r).toArray⟩ w7 (.inr hbu7) (by rw [Lib.byteCells_length, ← bytes_len]; simp; omega) hbr7.size)
          clear hbu7
          go_wp2_with fail
          refine W3.out.mono ?_
          rintro e w8 ⟨rfl, hbu8, hb8⟩
          rw [cells_append, List.append_assoc, show List.replicate (9 - Lib.nDigits r) 48 ++ Lib.decDigits r = pad 9 r from rfl, ← HHR.out] at hbu8
          have hbr8 := hbr7.trans hb8
          have HB8 := hide hbu8
          clear hbu8
          go_wp2
          go_roundw
          case rel => exact ⟨(m : Int) - 1, m, by omega, by omega, by omega, rfl, HB8.out, hbr8⟩
          case measure => simp [intOf]
        · obtain rfl : i = -1 := by omega
          obtain rfl : j = 0 := by omega
          have ST := hide (Tryd.Builder_String_any w1.heap.size w1.heap.size _ wr (.inr hbld) hbr.size)
          clear hbld
          go_wp2_with (go_at_call 54; refine ST.out.mono ?_; rintro e w6 ⟨rfl, hb6⟩)
          go_ret
          exact ⟨rfl, (hb.trans ((hbr.trans hb6).mono hb.size))⟩
  · have h1 : right xs = false := by simpa using h1
    have hS : textS xs = [] := by unfold textS; rw [h1]; rfl
    rw [hS]
    rw [h1] at C1
    have D1 := hide C1
    clear h1 hS C1 hra
    go_enter Tryd.func32, Tryd.ntmps32
    go_wp2_with fail
    refine D1.out.mono ?_; rintro e w' ⟨rfl, rfl⟩
    go_wp2
    go_ret
    exact ⟨rfl, Below.refl _ _⟩
end Go.Proofs.YthnfdbgejmkaaaaDoor
