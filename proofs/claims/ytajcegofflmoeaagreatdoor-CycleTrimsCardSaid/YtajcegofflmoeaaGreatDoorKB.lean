/- Part of the proofs over this program: LexStr, LexRef, CfgRef, CalmT, CfgRef2, CfgRef3, MapW. -/
import Derived.Maps.OwnSet
import Derived.Test.YtajcegofflmoeaaGreatDoorKA
namespace Go.Proofs.YtajcegofflmoeaaGreatDoor
set_option maxRecDepth 100000
open Go.RowKit

theorem K.str_list (l : List Int) : (K.str l).toList = K.bytes l := by rw [ByteArray.toList_eq]; simp [K.str]
theorem str_yes {l m : List Int} (h : l = m) : ((K.str l).toList == K.bytes m) = true := by rw [K.str_list, h]; simp
theorem str_no {l m : List Int} (hl : K.Bytes l) (hm : K.Bytes m) (h : ¬ l = m) : ((K.str l).toList == K.bytes m) = false := by
  rw [K.str_list, beq_eq_false_iff_ne]
  exact fun e => h (K.bytes_inj hl hm e)
theorem K.str_size (l : List Int) : (K.str l).size = l.length := by simp [K.str, K.bytes, ByteArray.size]
theorem K.str_get {l : List Int} (hl : K.Bytes l) (i : Nat) (h : i < (K.str l).size) : (((K.str l)[i]'h).toNat : Int) = l.getD i 0 := by
  have h' : i < (K.bytes l).length := by rw [K.str_size] at h; simpa [K.bytes] using h
  rw [← K.bytes_at hl i h']
  congr 2
theorem K.of (s : ByteArray) : ∃ l, K.Bytes l ∧ s = K.str l := by
  refine ⟨s.data.toList.map fun b => (b.toNat : Int), ?_, ?_⟩
  · intro z hz
    obtain ⟨b, _, rfl⟩ := List.mem_map.1 hz
    have := b.toNat_lt
    omega
  · unfold K.str K.bytes
    rw [List.map_map]
    have : ((fun z : Int => UInt8.ofNat z.toNat) ∘ fun b : UInt8 => (b.toNat : Int)) = id := by
      funext b; simp
    rw [this]; simp


theorem isSign_any (l : List Int) (hl : K.Bytes l) (hn : l.length ≤ 9223372036854775807) (w : World) :
    Calls Tryz.prog 125 #[.string (K.str l)] w fun e w' => e = .returned (.bool (T.isSign l)) ∧ w = w' := by
  by_cases h0 : l = [92, 110]
  · have e0 := str_yes (l := l) (m := [92, 110]) h0
    rw [show K.bytes [92, 110] = [92, 110] from rfl] at e0
    rw [show T.isSign l = true from by rw [h0]; rfl]
    clear h0 hl hn
    generalize K.str l = s at *
    go_enter Tryz.func125, Tryz.ntmps125
    go_wp2
    go_ret
    exact ⟨rfl, rfl⟩
  have e0 := str_no hl (m := [92, 110]) (bytes_lit _ (by decide)) h0
  rw [show K.bytes [92, 110] = [92, 110] from rfl] at e0
  by_cases h1 : l = [92, 116]
  · have e1 := str_yes (l := l) (m := [92, 116]) h1
    rw [show K.bytes [92, 116] = [92, 116] from rfl] at e1
    rw [show T.isSign l = true from by rw [h1]; rfl]
    clear h0 h1 hl hn
    generalize K.str l = s at *
    go_enter Tryz.func125, Tryz.ntmps125
    go_wp2
    go_ret
    exact ⟨rfl, rfl⟩
  have e1 := str_no hl (m := [92, 116]) (bytes_lit _ (by decide)) h1
  rw [show K.bytes [92, 116] = [92, 116] from rfl] at e1
  by_cases h2 : l = [92, 92]
  · have e2 := str_yes (l := l) (m := [92, 92]) h2
    rw [show K.bytes [92, 92] = [92, 92] from rfl] at e2
    rw [show T.isSign l = true from by rw [h2]; rfl]
    clear h0 h1 h2 hl hn
    generalize K.str l = s at *
    go_enter Tryz.func125, Tryz.ntmps125
    go_wp2
    go_ret
    exact ⟨rfl, rfl⟩
  have e2 := str_no hl (m := [92, 92]) (bytes_lit _ (by decide)) h2
  rw [show K.bytes [92, 92] = [92, 92] from rfl] at e2
  by_cases h3 : l = [92, 39]
  · have e3 := str_yes (l := l) (m := [92, 39]) h3
    rw [show K.bytes [92, 39] = [92, 39] from rfl] at e3
    rw [show T.isSign l = true from by rw [h3]; rfl]
    clear h0 h1 h2 h3 hl hn
    generalize K.str l = s at *
    go_enter Tryz.func125, Tryz.ntmps125
    go_wp2
    go_ret
    exact ⟨rfl, rfl⟩
  have e3 := str_no hl (m := [92, 39]) (bytes_lit _ (by decide)) h3
  rw [show K.bytes [92, 39] = [92, 39] from rfl] at e3
  by_cases h4 : l = [39]
  · have e4 := str_yes (l := l) (m := [39]) h4
    rw [show K.bytes [39] = [39] from rfl] at e4
    rw [show T.isSign l = false from by rw [h4]; rfl]
    clear h0 h1 h2 h3 h4 hl hn
    generalize K.str l = s at *
    go_enter Tryz.func125, Tryz.ntmps125
    go_wp2
    go_ret
    exact ⟨rfl, rfl⟩
  have e4 := str_no hl (m := [39]) (bytes_lit _ (by decide)) h4
  rw [show K.bytes [39] = [39] from rfl] at e4
  by_cases h5 : l = [92]
  · have e5 := str_yes (l := l) (m := [92]) h5
    rw [show K.bytes [92] = [92] from rfl] at e5
    rw [show T.isSign l = false from by rw [h5]; rfl]
    clear h0 h1 h2 h3 h4 h5 hl hn
    generalize K.str l = s at *
    go_enter Tryz.func125, Tryz.ntmps125
    go_wp2
    go_ret
    exact ⟨rfl, rfl⟩
  have e5 := str_no hl (m := [92]) (bytes_lit _ (by decide)) h5
  rw [show K.bytes [92] = [92] from rfl] at e5
  have hsz := K.str_size l
  by_cases hlen : l.length = 1
  · obtain ⟨z, rfl⟩ := List.length_eq_one_iff.1 hlen
    have hz := hl.hd
    have hv : T.isSign [z] = (decide (32 ≤ z) && decide (z ≤ 126)) := by
      have n1 : (z != 39) = true := by simpa using h4
      have n2 : (z != 92) = true := by simpa using h5
      simp [T.isSign, n1, n2]
    rw [hv]
    have hb : ∀ h : 0 < (K.str [z]).size, (((K.str [z])[0]'h).toNat : Int) = z := fun h => K.str_get hl 0 h
    simp only [List.length_cons, List.length_nil] at hsz
    clear h0 h1 h2 h3 h4 h5 hl hn hv hlen
    generalize K.str [z] = s at *
    have hs1 : ((s.size : Int) == 1) = true := by rw [hsz]; rfl
    have hs0 : 0 < s.size := by omega
    have hb0 := hb hs0
    clear hsz hb
    go_enter Tryz.func125, Tryz.ntmps125
    go_wp2
    all_goals go_ret
    all_goals (refine ⟨ret_bool ?_, rfl⟩; first | rfl | (rw [Bool.eq_iff_iff]; simp; done) | (rw [Bool.eq_iff_iff]; simp; omega))
  · have hv : T.isSign l = false := by
      match l with
      | [] => rfl
      | [z] => exact absurd rfl hlen
      | [a, b] =>
        simp only [T.isSign, Bool.or_false, beq_eq_false_iff_ne.2 h0, beq_eq_false_iff_ne.2 h1, beq_eq_false_iff_ne.2 h2, beq_eq_false_iff_ne.2 h3]
      | a :: b :: c :: r => simp [T.isSign]
    rw [hv]
    have hs1 : (((K.str l).size : Int) == 1) = false := by rw [hsz]; exact beq_eq_false_iff_ne.2 (by omega)
    clear h0 h1 h2 h3 h4 h5 hl hn hv hlen hsz
    generalize K.str l = s at *
    go_enter Tryz.func125, Tryz.ntmps125
    go_wp2
    go_ret
    exact ⟨rfl, rfl⟩

theorem K.str_data (l : List Int) : (K.str l).data.toList = K.bytes l := by simp [K.str]
theorem hasP_yes (r : List Int) : Lib.hasPrefix (K.bytes (39 :: r)) [39] = true := by
  simp [Lib.hasPrefix, K.bytes, List.isPrefixOf]
theorem hasP_no {l : List Int} (hl : K.Bytes l) (h : ∀ r, l ≠ 39 :: r) : Lib.hasPrefix (K.bytes l) [39] = false := by
  cases l with
  | nil => rfl
  | cons z r =>
    have hz := hl.hd
    have hn : z ≠ 39 := fun e => h r (by rw [e])
    simp only [Lib.hasPrefix, K.bytes, List.map_cons, List.isPrefixOf, Bool.and_true]
    rw [beq_eq_false_iff_ne]
    intro e
    have := congrArg UInt8.toNat e
    simp at this
    omega
theorem cutP_yes (r : List Int) (w : World) :
    Calls Tryz.prog 123 #[.string (K.str (39 :: r)), .string ⟨#[39]⟩] w fun e w' => e = .returned (.tuple #[.string (K.str r), .bool true]) ∧ w = w' := by
  refine (Tryz.strings_CutPrefix (K.str (39 :: r)) ⟨#[39]⟩ w).mono fun e w' ⟨he, hw⟩ => ⟨he.trans ?_, hw.symm⟩
  rw [K.str_data]
  have h := hasP_yes r
  unfold Lib.trimPrefix
  rw [show (#[39] : Array UInt8).toList = [39] from rfl, h, if_pos rfl]
  rfl
theorem cutP_no (l : List Int) (hl : K.Bytes l) (h : ∀ r, l ≠ 39 :: r) (w : World) :
    Calls Tryz.prog 123 #[.string (K.str l), .string ⟨#[39]⟩] w fun e w' => e = .returned (.tuple #[.string (K.str l), .bool false]) ∧ w = w' := by
  refine (Tryz.strings_CutPrefix (K.str l) ⟨#[39]⟩ w).mono fun e w' ⟨he, hw⟩ => ⟨he.trans ?_, hw.symm⟩
  rw [K.str_data]
  have h := hasP_no hl h
  unfold Lib.trimPrefix
  rw [show (#[39] : Array UInt8).toList = [39] from rfl, h, if_neg (by simp)]
  rfl
theorem hasS_yes (m : List Int) : Lib.hasSuffix (K.bytes (m ++ [39])) [39] = true := by
  unfold Lib.hasSuffix
  rw [List.isSuffixOf_iff_suffix]
  exact ⟨K.bytes m, by simp [K.bytes]⟩
theorem hasS_no {l : List Int} (hl : K.Bytes l) (h : ∀ m, l ≠ m ++ [39]) : Lib.hasSuffix (K.bytes l) [39] = false := by
  rw [Bool.eq_false_iff]
  intro e
  unfold Lib.hasSuffix at e
  rw [List.isSuffixOf_iff_suffix] at e
  obtain ⟨t, ht⟩ := e
  rcases List.eq_nil_or_concat l with rfl | ⟨m, z, rfl⟩
  · simp [K.bytes] at ht
  · have hz := hl z (by simp)
    have hk : K.bytes (m.concat z) = K.bytes m ++ [UInt8.ofNat z.toNat] := by simp [K.bytes]
    rw [hk] at ht
    have := List.append_inj_right' ht rfl
    injection this with this _
    have := congrArg UInt8.toNat this
    simp at this
    exact h m (by simp; omega)
theorem cutS_yes (m : List Int) (hn : m.length < 9223372036854775807) (w : World) :
    Calls Tryz.prog 124 #[.string (K.str (m ++ [39])), .string ⟨#[39]⟩] w fun e w' => e = .returned (.tuple #[.string (K.str m), .bool true]) ∧ w = w' := by
  refine (Tryz.strings_CutSuffix (K.str (m ++ [39])) ⟨#[39]⟩ w (by rw [K.str_size]; simp; omega)).mono fun e w' ⟨he, hw⟩ => ⟨he.trans ?_, hw.symm⟩
  rw [K.str_data]
  have h := hasS_yes m
  unfold Lib.trimSuffix
  rw [show (#[39] : Array UInt8).toList = [39] from rfl, h, if_pos rfl]
  have : (K.bytes (m ++ [39])).take ((K.bytes (m ++ [39])).length - [(39 : UInt8)].length) = K.bytes m := by
    have e : K.bytes (m ++ [39]) = K.bytes m ++ [39] := by simp [K.bytes]
    rw [e]; simp
  rw [this]
  rfl
theorem cutS_no (l : List Int) (hl : K.Bytes l) (hn : l.length ≤ 9223372036854775807) (h : ∀ m, l ≠ m ++ [39]) (w : World) :
    Calls Tryz.prog 124 #[.string (K.str l), .string ⟨#[39]⟩] w fun e w' => e = .returned (.tuple #[.string (K.str l), .bool false]) ∧ w = w' := by
  refine (Tryz.strings_CutSuffix (K.str l) ⟨#[39]⟩ w (by rw [K.str_size]; omega)).mono fun e w' ⟨he, hw⟩ => ⟨he.trans ?_, hw.symm⟩
  rw [K.str_data]
  have h := hasS_no hl h
  unfold Lib.trimSuffix
  rw [show (#[39] : Array UInt8).toList = [39] from rfl, h, if_neg (by simp)]
  rfl

theorem lit_any (l : List Int) (hl : K.Bytes l) (hn : l.length ≤ 9223372036854775807) (w : World) :
    Calls Tryz.prog 105 #[.string (K.str l)] w fun e w' => e = .returned (.bool (T.isLit l)) ∧ w = w' := by
  by_cases hb : ∃ r, l = 39 :: r
  · obtain ⟨r, rfl⟩ := hb
    have P1 := hide (fun w => cutP_yes r w)
    have hr : K.Bytes r := hl.tl
    have hrn : r.length < 9223372036854775807 := by simp at hn; omega
    by_cases he : ∃ m, r = m ++ [39]
    · obtain ⟨m, rfl⟩ := he
      have hmn : m.length < 9223372036854775807 := by simp at hrn; omega
      have P2 := hide (fun w => cutS_yes m hmn w)
      have P3 := hide (fun w => isSign_any m (fun z hz => hr z (by simp [hz])) (by omega) w)
      rw [T.isLit_mid m]
      clear hl hn hr hrn hmn
      generalize K.str (39 :: (m ++ [39])) = s at *
      generalize K.str (m ++ [39]) = s2 at *
      generalize K.str m = s3 at *
      generalize T.isSign m = b at *
      go_enter Tryz.func105, Tryz.ntmps105
      go_wp2_with fail
      refine (P1.out _).mono ?_; rintro _ w' ⟨rfl, rfl⟩
      go_wp2_with fail
      refine (P2.out _).mono ?_; rintro _ w' ⟨rfl, rfl⟩
      go_wp2_with fail
      refine (P3.out _).mono ?_; rintro _ w' ⟨rfl, rfl⟩
      go_wp2
      go_ret
      exact ⟨rfl, rfl⟩
    · have P2 := hide (fun w => cutS_no r hr (by omega) (fun m e => he ⟨m, e⟩) w)
      have hv : T.isLit (39 :: r) = false := by
        rcases hq : T.isLit (39 :: r) with _ | _
        · rfl
        · obtain ⟨m, hm⟩ := T.isLit_bare _ hq
          injection hm with _ hm
          exact absurd ⟨m, hm⟩ he
      rw [hv]
      clear hl hn hr hrn he hv
      generalize K.str (39 :: r) = s at *
      generalize K.str r = s2 at *
      go_enter Tryz.func105, Tryz.ntmps105
      go_wp2_with fail
      refine (P1.out _).mono ?_; rintro _ w' ⟨rfl, rfl⟩
      go_wp2_with fail
      refine (P2.out _).mono ?_; rintro _ w' ⟨rfl, rfl⟩
      go_wp2
      go_ret
      exact ⟨rfl, rfl⟩
  · have P1 := hide (fun w => cutP_no l hl (fun r e => hb ⟨r, e⟩) w)
    have hv : T.isLit l = false := by
      rcases hq : T.isLit l with _ | _
      · rfl
      · obtain ⟨m, hm⟩ := T.isLit_bare _ hq
        exact absurd ⟨_, hm⟩ hb
    have P2 : Hid (∃ (s2 : ByteArray) (b : Bool), ∀ w, Calls Tryz.prog 124 #[.string (K.str l), .string ⟨#[39]⟩] w fun e w' => e = .returned (.tuple #[.string s2, .bool b]) ∧ w = w') := by
      refine hide ?_
      by_cases he : ∃ m, l = m ++ [39]
      · obtain ⟨m, rfl⟩ := he
        exact ⟨K.str m, true, fun w => cutS_yes m (by simp at hn; omega) w⟩
      · exact ⟨K.str l, false, fun w => cutS_no l hl hn (fun m e => he ⟨m, e⟩) w⟩
    obtain ⟨s2, b, P2⟩ := P2.out
    replace P2 := hide P2
    rw [hv]
    clear hl hn hb hv
    generalize K.str l = s at *
    go_enter Tryz.func105, Tryz.ntmps105
    go_wp2_with fail
    refine (P1.out _).mono ?_; rintro _ w' ⟨rfl, rfl⟩
    go_wp2_with fail
    refine (P2.out _).mono ?_; rintro _ w' ⟨rfl, rfl⟩
    go_wp2
    go_ret
    exact ⟨rfl, rfl⟩

def scap (w : World) (l : List Int) : Nat := grownCap w l.length 0 5
def sobj (w : World) (l : List Int) : Obj := .cells (bytesRow (K.str l) (scap w l)) 5 ((bytesRow (K.str l) (scap w l)).size, (bytesRow (K.str l) (scap w l)).size + 1)
theorem str_bytes (w : World) (l : List Int) : (convert 9 49 (.string (K.str l))).run Tryz.prog w = .ok (.slice (some ⟨w.heap.size, 0, none⟩) l.length (scap w l)) (w.drew.alloc (sobj w l)) := by
  have := run_bytes_of_string (P := Tryz.prog) w 9 49 5 (K.str l) Tryz.underlying9 Tryz.underlying49 Tryz.underlying5
  rw [K.str_size] at this
  exact this
theorem str_rd (w : World) (l : List Int) (hl : K.Bytes l) : RdB (w.drew.alloc (sobj w l)) (w.drew.alloc (sobj w l)).heap.size (some ⟨w.heap.size, 0, none⟩) l ∧ Below w.heap.size w (w.drew.alloc (sobj w l)) ∧ l.length ≤ scap w l := by
  refine ⟨fun _ => ⟨w.heap.size, 0, rfl, by simp, fun j hj => ?_⟩, (below_drewN (Below.refl _ _) 1).alloc (Nat.le_refl _) _, grownCap_ge w l.length 0 _⟩
  have := World.cell?_alloc_mark w.drew (bytesRow (K.str l) (scap w l)) 5 ((bytesRow (K.str l) (scap w l)).size, (bytesRow (K.str l) (scap w l)).size + 1) (0 + j)
  rw [show w.drew.heap.size = w.heap.size from rfl] at this
  unfold sobj
  rw [this]
  have hj' : j < (K.bytes l).length := by simpa [K.bytes] using hj
  have h2 : 0 + j < (K.str l).data.size := by simpa [K.str] using hj'
  rw [bytesRow_at (K.str l) _ (0 + j) h2]
  have := K.bytes_at hl j hj'
  rw [← this]
  simp [K.str]

theorem name_any (l : List Int) (hl : K.Bytes l) (w : World) :
    Calls Tryz.prog 75 #[.string (K.str l)] w fun e w' => e = .returned (.bool (T.isName l)) ∧ Below w.heap.size w w' := by
  have hsz := K.str_size l
  by_cases h0 : l = []
  · subst h0
    have e0 : (K.str []).toList = [] := by rw [K.str_list]; rfl
    have hv : T.isName [] = false := by decide
    rw [hv]
    clear hsz hl hv
    generalize K.str [] = s at *
    go_enter Tryz.func75, Tryz.ntmps75
    go_wp2
    go_ret
    exact ⟨rfl, Below.refl _ _⟩
  · have e0 := str_no hl (m := []) (bytes_lit _ (by decide)) h0
    rw [show K.bytes [] = [] from rfl] at e0
    have e2 : ¬ (K.str l).toList = [] := by simpa using e0
    have e1 : (!(K.str l).toList.isEmpty) = true := by
      rw [K.str_list]
      cases l with
      | nil => exact absurd rfl h0
      | cons z r => rfl
    have hpos : l.length ≠ 0 := fun e => h0 (List.eq_nil_of_length_eq_zero e)
    by_cases h20 : l.length ≤ 20
    · have hv : T.isName l = (((T.nsize l : Nat) : Int) == (l.length : Int)) := by
        unfold T.isName
        rw [decide_eq_true h20, decide_eq_true hpos, Bool.true_and, Bool.true_and, Bool.eq_iff_iff]
        simp; omega
      have C1 := fun w => str_bytes w l
      have P1 := hide (fun (w : World) => (nsize_any (some ⟨w.heap.size, 0, none⟩) (scap w l) _ l (w.drew.alloc (sobj w l)) (str_rd w l hl).1 (by omega)))
      have B1 := hide (fun (w : World) => (str_rd w l hl).2.1)
      rw [hv]
      clear hv hpos h0 hl
      generalize T.nsize l = n at *
      have hle : (l.length : Int) ≤ 20 := by omega
      clear h20
      generalize l.length = m at *
      have HZ := hide hsz
      have hs2 : ((K.str l).size : Int) = m := by omega
      clear hsz
      generalize K.str l = s at *
      go_enter Tryz.func75, Tryz.ntmps75
      go_wp2_with (simp only [C1])
      refine (P1.out _).mono ?_; rintro _ w' ⟨rfl, rfl⟩
      go_wp2
      go_ret
      exact ⟨rfl, B1.out w⟩
    · have hv : T.isName l = false := by unfold T.isName; rw [decide_eq_false h20]; rfl
      rw [hv]
      have h21 : ¬ ((K.str l).size : Int) ≤ 20 := by omega
      clear hv hpos h0 hl h20 hsz
      generalize K.str l = s at *
      go_enter Tryz.func75, Tryz.ntmps75
      go_wp2
      go_ret
      exact ⟨rfl, Below.refl _ _⟩
end Go.Proofs.YtajcegofflmoeaaGreatDoor

namespace Go.Proofs.YtajcegofflmoeaaGreatDoor
set_option maxRecDepth 100000
open Go.RowKit

set_option maxHeartbeats 1000000 in
theorem rname_any (l : List Int) (hl : K.Bytes l) (w : World) :
    Calls Tryz.prog 65 #[.string (K.str l)] w fun e w' => e = .returned (.bool (T.isName l)) ∧ w = w' := by
  have hsz := K.str_size l
  by_cases h0 : l.length = 0
  · obtain rfl := List.eq_nil_of_length_eq_zero h0
    rw [show T.isName [] = false from rfl]
    have hs0 : ((K.str []).size : Int) = 0 := by rw [hsz]; rfl
    clear hsz hl h0
    generalize K.str [] = s at *
    go_enter Tryz.func65, Tryz.ntmps65
    go_wp2
    go_ret
    exact ⟨rfl, rfl⟩
  by_cases h20 : l.length ≤ 20
  · have hiff := T.isName_iff l
    rw [decide_eq_true h0, decide_eq_true h20, Bool.true_and, Bool.true_and] at hiff
    have hp : 0 < (K.str l).size := by omega
    have hb0 := K.str_get hl 0 hp
    have P1 := hide (fun w => first_any (l.getD 0 0) w)
    have hp2 : (((K.str l).size : Int) == 0) = false := beq_eq_false_iff_ne.2 (by omega)
    have hs3 : ((K.str l).size : Int) ≤ 20 := by omega
    by_cases hh : T.head (l.getD 0 0) = true
    · rw [hh, Bool.true_and] at hiff
      have HI := hide hiff
      have hsz' : (l.length : Int) = ((K.str l).size : Int) := by omega
      have HB := hide (fun k h => K.str_get hl k h)
      have HP := hide (fun k w => later_any (l.getD k 0) w)
      rw [hh] at P1
      have HL := hide hsz
      clear hsz hsz' hiff hh h0 h20 hl
      generalize l.getD 0 0 = z at *
      generalize T.isName l = res at *
      generalize K.str l = s at *
      go_enter Tryz.func65, Tryz.ntmps65
      go_wp2_with fail
      refine (P1.out _).mono ?_; rintro _ w' ⟨rfl, rfl⟩
      go_wp2
      go_loop [3] (fun vi => ∃ (k : Nat), k ≤ s.size ∧ vi = .int .i64 k ∧ ∀ j, j < k → T.inName (l.getD j 0) = true) (fun vi => s.size - (intOf vi).toNat)
      case atStart => exact ⟨0, by omega, rfl, fun j hj => by omega⟩
      case round =>
        obtain ⟨k, hk, rfl, hs⟩ := hrel
        have HS := hide hs
        clear hs hb0 P1
        by_cases hlt : k < s.size
        · have hbk := HB.out k hlt
          have P2 := hide (HP.out k)
          rcases hq : T.inName (l.getD k 0) with _ | _
          · have HF : Hid (T.inName (l.getD k 0) = false) := hide hq
            rw [hq] at P2
            clear hq
            have HK : Hid (k < l.length) := hide (by have := HL.out; omega)
            generalize hz : l.getD k 0 = z at *
            have HZ := hide hz
            clear hz
            go_wp2_with fail
            refine (P2.out _).mono ?_; rintro _ w' ⟨rfl, rfl⟩
            go_wp2
            go_ret
            refine ⟨ret_bool ?_, rfl⟩
            rw [HI.out]
            symm
            apply decide_eq_false
            intro h
            have h1 := h k HK.out
            have h2 := HF.out
            rw [HZ.out] at h1
            rw [h1] at h2; cases h2
          · have HF : Hid (T.inName (l.getD k 0) = true) := hide hq
            rw [hq] at P2
            clear hq
            generalize hz : l.getD k 0 = z at *
            have HZ := hide hz
            clear hz
            go_wp2_with fail
            refine (P2.out _).mono ?_; rintro _ w' ⟨rfl, rfl⟩
            go_wp2
            go_round
            case rel =>
              refine ⟨k + 1, by omega, by go_num, fun j hj => ?_⟩
              by_cases hjk : j = k
              · subst hjk; rw [HZ.out]; exact HF.out
              · exact HS.out j (by omega)
            case measure => simp [intOf]; omega
        · obtain rfl : k = s.size := by omega
          go_wp2
          go_ret
          refine ⟨ret_bool ?_, rfl⟩
          rw [HI.out]
          symm
          apply decide_eq_true
          intro j hj
          exact HS.out j (by have := HL.out; omega)
    · have hh' : T.head (l.getD 0 0) = false := by simpa using hh
      rw [hh', Bool.false_and] at hiff
      rw [hiff]
      rw [hh'] at P1
      clear hsz hiff hh hh' h0 h20 hl
      generalize l.getD 0 0 = z at *
      generalize K.str l = s at *
      go_enter Tryz.func65, Tryz.ntmps65
      go_wp2_with fail
      refine (P1.out _).mono ?_; rintro _ w' ⟨rfl, rfl⟩
      go_wp2
      go_ret
      exact ⟨rfl, rfl⟩
  · have hv : T.isName l = false := by unfold T.isName; rw [decide_eq_false h20]; rfl
    rw [hv]
    have h21 : ((K.str l).size : Int) > 20 := by omega
    have h22 : (((K.str l).size : Int) == 0) = false := beq_eq_false_iff_ne.2 (by omega)
    clear hv h0 hl h20 hsz
    generalize K.str l = s at *
    go_enter Tryz.func65, Tryz.ntmps65
    go_wp2
    go_ret
    exact ⟨rfl, rfl⟩

set_option maxHeartbeats 1000000 in
theorem rlit_any (l : List Int) (hl : K.Bytes l) (w : World) :
    Calls Tryz.prog 92 #[.string (K.str l)] w fun e w' => e = .returned (.bool (T.isLit l)) ∧ w = w' := by
  have hsz := K.str_size l
  by_cases h3 : l.length = 3
  · obtain ⟨a, b, c, rfl⟩ : ∃ a b c, l = [a, b, c] := by
      match l, h3 with
      | [a, b, c], _ => exact ⟨a, b, c, rfl⟩
    clear h3
    have hs : (K.str [a, b, c]).size = 3 := hsz
    have hp0 : 0 < (K.str [a, b, c]).size := by omega
    have hp1 : 1 < (K.str [a, b, c]).size := by omega
    have hp2 : 2 < (K.str [a, b, c]).size := by omega
    have hb0 : (((K.str [a, b, c])[0]'hp0).toNat : Int) = a := K.str_get hl 0 hp0
    have hb1 : (((K.str [a, b, c])[1]'hp1).toNat : Int) = b := K.str_get hl 1 hp1
    have hb2 : (((K.str [a, b, c])[2]'hp2).toNat : Int) = c := K.str_get hl 2 hp2
    have hq : (((K.str [a, b, c]).size : Int) == 3) = true := by rw [hs]; rfl
    unfold T.isLit
    clear hs hsz hl
    generalize K.str [a, b, c] = s at *
    go_enter Tryz.func92, Tryz.ntmps92
    go_wp2
    all_goals go_ret
    all_goals (refine ⟨ret_bool ?_, rfl⟩; first | (simp_all; done) | (simp_all; omega))
  by_cases h4 : l.length = 4
  · obtain ⟨a, b, c, d, rfl⟩ : ∃ a b c d, l = [a, b, c, d] := by
      match l, h4 with
      | [a, b, c, d], _ => exact ⟨a, b, c, d, rfl⟩
    clear h3 h4
    have hs : (K.str [a, b, c, d]).size = 4 := hsz
    have hp0 : 0 < (K.str [a, b, c, d]).size := by omega
    have hp1 : 1 < (K.str [a, b, c, d]).size := by omega
    have hp2 : 2 < (K.str [a, b, c, d]).size := by omega
    have hp3 : 3 < (K.str [a, b, c, d]).size := by omega
    have hb0 : (((K.str [a, b, c, d])[0]'hp0).toNat : Int) = a := K.str_get hl 0 hp0
    have hb1 : (((K.str [a, b, c, d])[1]'hp1).toNat : Int) = b := K.str_get hl 1 hp1
    have hb2 : (((K.str [a, b, c, d])[2]'hp2).toNat : Int) = c := K.str_get hl 2 hp2
    have hb3 : (((K.str [a, b, c, d])[3]'hp3).toNat : Int) = d := K.str_get hl 3 hp3
    have hq3 : (((K.str [a, b, c, d]).size : Int) == 3) = false := by rw [hs]; rfl
    have hq : (((K.str [a, b, c, d]).size : Int) == 4) = true := by rw [hs]; rfl
    unfold T.isLit
    clear hs hsz hl
    generalize K.str [a, b, c, d] = s at *
    go_enter Tryz.func92, Tryz.ntmps92
    go_wp2
    all_goals go_ret
    all_goals (refine ⟨ret_bool ?_, rfl⟩; first | (simp_all; done) | (simp_all; omega))
  · have hv : T.isLit l = false := by
      rcases hq : T.isLit l with _ | _
      · rfl
      · have := T.isLit_len hq; omega
    rw [hv]
    have hq3 : (((K.str l).size : Int) == 3) = false := beq_eq_false_iff_ne.2 (by omega)
    have hq4 : (((K.str l).size : Int) == 4) = false := beq_eq_false_iff_ne.2 (by omega)
    clear hv hl hsz h3 h4
    generalize K.str l = s at *
    go_enter Tryz.func92, Tryz.ntmps92
    go_wp2
    go_ret
    exact ⟨rfl, rfl⟩
end Go.Proofs.YtajcegofflmoeaaGreatDoor

namespace Go.Proofs.YtajcegofflmoeaaGreatDoor
set_option maxRecDepth 100000
open Go.RowKit

def One (w : World) (a : Array Value) (wr : World) : Prop := Below (w.heap.size + 1) (w.alloc (.cells a 26)) wr
theorem One.start (w : World) (a : Array Value) : One w a (w.alloc (.cells a 26)) := Below.refl _ _
theorem One.size {w wr : World} {a : Array Value} (h : One w a wr) : w.heap.size + 1 ≤ wr.heap.size := by have := Below.size h; simpa using this
theorem One.below {w wr : World} {a : Array Value} (h : One w a wr) : Below w.heap.size w wr := ((Below.refl w.heap.size w).alloc (Nat.le_refl _) _).trans (Below.mono h (by omega))
theorem One.on {w wr wt : World} {a : Array Value} (h : One w a wr) (k : Below wr.heap.size wr wt) : One w a wt := Below.trans h (k.mono h.size)
theorem One.drewN {w wr : World} {a : Array Value} (h : One w a wr) (n : Nat) : One w a (wr.drewN n) := below_drewN h n
theorem One.alloc {w wr : World} {a : Array Value} (h : One w a wr) (o : Obj) : One w a (wr.alloc o) := Below.alloc h h.size o
theorem One.c {w wr : World} {a : Array Value} (h : One w a wr) (j : Nat) (u : Value) (hj : a[j]? = some u) : wr.cell? ⟨w.heap.size, j, none⟩ = some u := by
  have b0 := (Below.block h w.heap.size (by omega)).trans (heap_alloc_new w _)
  exact (cell_of_row wr _ j _ _ _ b0).trans hj

theorem rnamed_any (s : List Int) (hs : K.Tx s) (w : World) :
    Calls Tryz.prog 62 #[.string (K.str s)] w fun e w' => e = .returned (.bool (Gm.named s)) ∧ w = w' := by
  have HN := hide (fun w => rname_any s hs.1 w)
  have HL := hide (fun w => rlit_any s hs.1 w)
  unfold Gm.named
  clear hs
  cases q : T.isName s
  · rw [q] at HN
    clear q
    generalize T.isLit s = b at *
    go_enter Tryz.func62, Tryz.ntmps62
    go_wp2_with fail
    refine (HN.out _).mono ?_; rintro _ _ ⟨rfl, rfl⟩
    go_wp2_with fail
    refine (HL.out _).mono ?_; rintro _ _ ⟨rfl, rfl⟩
    go_wp2
    go_ret
    exact ⟨ret_bool (by simp), rfl⟩
  · rw [q] at HN
    clear q
    go_enter Tryz.func62, Tryz.ntmps62
    go_wp2_with fail
    refine (HN.out _).mono ?_; rintro _ _ ⟨rfl, rfl⟩
    go_wp2
    go_ret
    exact ⟨ret_bool (by simp), rfl⟩

theorem lev_drop {n : Int} {ts : List Gm.Tm} {k : Nat} (h : k < ts.length) (z : Int) : Gm.lev n (ts.drop k) z = if ts[k].lv ≠ n then Gm.lev n (ts.drop (k + 1)) z else if z ≠ 0 ∧ z ≠ ts[k].wy then false else Gm.lev n (ts.drop (k + 1)) ts[k].wy := by
  rw [List.drop_eq_getElem_cons h, Gm.lev]
theorem lev_end {n : Int} {ts : List Gm.Tm} {k : Nat} (h : ts.length ≤ k) (z : Int) : Gm.lev n (ts.drop k) z = (z != 0) := by
  rw [List.drop_eq_nil_of_le h, Gm.lev]

set_option maxHeartbeats 2000000 in
theorem level_any (v : Value) (G : Gm.Gr) (n : Int) (B : Nat) (w : World) (hg : RdGr w B v G) (hB : B ≤ w.heap.size) :
    Calls Tryz.prog 64 #[v, .int .i64 n] w fun e w' => e = .returned (.bool (Gm.lev n G.ts 0)) ∧ Below w.heap.size w w' := by
  obtain ⟨AT, cT, AN, cN, AR, cR, rfl, ⟨hl, hm⟩, _, _, ht, _, _⟩ := hg
  have HT := hide ht
  have HS0 := hide (One.start w #[.slice AT G.ts.length cT, .slice AN G.ns.length cN, .slice AR G.rs.length cR, .int .i64 G.st])
  clear ht
  go_enter Tryz.func64, Tryz.ntmps64
  go_wp2
  go_loopw [5, 6] (fun vw vi wr => ∃ (k : Nat) (z : Int), k ≤ G.ts.length ∧ vi = .int .i64 k ∧ vw = .int .i64 z ∧ Hid (Gm.lev n G.ts 0 = Gm.lev n (G.ts.drop k) z) ∧ One w #[.slice AT G.ts.length cT, .slice AN G.ns.length cN, .slice AR G.rs.length cR, .int .i64 G.st] wr) (fun _ vi _ => G.ts.length - (intOf vi).toNat)
  case atStart => exact ⟨0, 0, Nat.zero_le _, rfl, rfl, hide rfl, HS0.out⟩
  case round =>
    obtain ⟨k, z, hk, rfl, rfl, HE, hb⟩ := hrel
    have HB := hide hb
    have q0 := hb.c 0 _ rfl
    have hz : w.heap.size < wr.heap.size := hb.size
    have hbw := hb.below
    clear hb
    by_cases hlt : k < G.ts.length
    · obtain ⟨g, o, rfl, hgb, hc⟩ := HT.out (by omega)
      have k0 := (hbw.cell (p := ⟨g, o + k * 3, none⟩) (Nat.lt_of_lt_of_le hgb hB)).trans (hc k hlt).1
      have k1 := (hbw.cell (p := ⟨g, o + k * 3 + 1, none⟩) (Nat.lt_of_lt_of_le hgb hB)).trans (hc k hlt).2.1
      have k2 := (hbw.cell (p := ⟨g, o + k * 3 + 2, none⟩) (Nat.lt_of_lt_of_le hgb hB)).trans (hc k hlt).2.2
      have hgs : g < wr.heap.size := by omega
      have HN := hide (HE.out.trans (lev_drop hlt z))
      clear hc hbw
      generalize G.ts[k].nm = nm at *
      generalize G.ts[k].lv = lv at *
      generalize G.ts[k].wy = wy at *
      by_cases hx : lv = n
      · subst hx
        have hx' : (lv != lv) = false := by simp
        by_cases hy : z = 0
        · have HR := hide (HN.out.trans ((if_neg (by simp)).trans (if_neg (by simp [hy]))))
          subst hy
          go_wp2
          go_roundw
          case rel => exact ⟨k + 1, wy, by omega, by go_num, rfl, HR, HB.out.alloc _⟩
          case measure => simp [intOf]; omega
        · have hy' : (z != 0) = true := by simpa using hy
          by_cases hq : z = wy
          · have HR := hide (HN.out.trans ((if_neg (by simp)).trans (if_neg (by simp [hq]))))
            have hq' : (z != wy) = false := by simpa using hq
            clear hq hy
            go_wp2
            go_roundw
            case rel => exact ⟨k + 1, wy, by omega, by go_num, rfl, HR, HB.out.alloc _⟩
            case measure => simp [intOf]; omega
          · have HR := hide (HN.out.trans ((if_neg (by simp)).trans (if_pos ⟨hy, hq⟩)))
            have hq' : (z != wy) = true := by simpa using hq
            clear hq hy
            go_wp2
            go_ret
            exact ⟨ret_bool HR.out.symm, (HB.out.alloc _).below⟩
      · have HR := hide (HN.out.trans (if_pos hx))
        have hx' : (lv != n) = true := by simpa using hx
        clear hx
        go_wp2
        go_roundw
        case rel => exact ⟨k + 1, z, by omega, by go_num, rfl, HR, HB.out.alloc _⟩
        case measure => simp [intOf]; omega
    · obtain rfl : k = G.ts.length := by omega
      have HR := hide (HE.out.trans (lev_end (Nat.le_refl _) z))
      clear hbw
      go_wp2
      go_ret
      exact ⟨ret_bool HR.out.symm, HB.out.below⟩

theorem terms_no {ts : List Gm.Tm} {k : Nat} (h : k < ts.length) (hn : Gm.term1 ts k ts[k] = false) : Gm.terms ts = false := by
  unfold Gm.terms
  rw [Bool.and_eq_false_iff]
  exact .inr (decide_eq_false fun q => by have := q k h; rw [hn] at this; cases this)
theorem terms_long {ts : List Gm.Tm} (h : 24 < ts.length) : Gm.terms ts = false := by
  unfold Gm.terms
  rw [decide_eq_false (by omega)]; rfl
def LvOk (ts : List Gm.Tm) (j : Nat) : Prop := ∀ m, m + 1 < j → Gm.lev ((m + 1 : Nat) : Int) ts 0 = true
def TmOk (ts : List Gm.Tm) (k : Nat) : Prop := ∀ i (h : i < ts.length), i < k → Gm.term1 ts i ts[i] = true
theorem TmOk.next {ts : List Gm.Tm} {k : Nat} (h : TmOk ts k) (hk : k < ts.length) (hn : Gm.term1 ts k ts[k] = true) : TmOk ts (k + 1) := fun i hi hik => by
  rcases Nat.lt_or_ge i k with q | q
  · exact h i hi q
  · obtain rfl : i = k := by omega
    exact hn
theorem TmOk.all {ts : List Gm.Tm} (h : TmOk ts ts.length) (hl : ts.length ≤ 24) : Gm.terms ts = true := by
  unfold Gm.terms
  rw [decide_eq_true hl, decide_eq_true fun i hi => h i hi hi]; rfl

set_option maxHeartbeats 8000000 in
theorem rterms_any (v : Value) (G : Gm.Gr) (B : Nat) (w : World) (hg : RdGr w B v G) (hf : Gm.Fit G) (hB : B ≤ w.heap.size) :
    Calls Tryz.prog 37 #[v] w fun e w' => e = .returned (.bool (Gm.terms G.ts)) ∧ Below w.heap.size w w' := by
  have HG := hide hg
  obtain ⟨AT, cT, AN, cN, AR, cR, rfl, ⟨hl, hm⟩, _, _, ht, _, _⟩ := hg
  have HT := hide ht
  have HF := hide hf
  have HS0 := hide (One.start w #[.slice AT G.ts.length cT, .slice AN G.ns.length cN, .slice AR G.rs.length cR, .int .i64 G.st])
  clear ht hf
  by_cases h24 : 24 < G.ts.length
  · rw [terms_long h24]
    go_enter Tryz.func37, Tryz.ntmps37
    go_wp2
    go_ret
    exact ⟨rfl, HS0.out.below⟩
  go_enter Tryz.func37, Tryz.ntmps37
  go_wp2
  go_loopw [3] (fun vi wr => ∃ (k : Nat), k ≤ G.ts.length ∧ vi = .int .i64 k ∧ TmOk G.ts k ∧ One w #[.slice AT G.ts.length cT, .slice AN G.ns.length cN, .slice AR G.rs.length cR, .int .i64 G.st] wr) (fun vi _ => G.ts.length - (intOf vi).toNat)
  case atStart => exact ⟨0, Nat.zero_le _, rfl, fun _ _ h => by omega, HS0.out⟩
  case round =>
    obtain ⟨k, hk, rfl, HE, hb⟩ := hrel
    have HE := hide HE
    have HB := hide hb
    have q0 := hb.c 0 _ rfl
    have q1 := hb.c 1 _ rfl
    have q2 := hb.c 2 _ rfl
    have q3 := hb.c 3 _ rfl
    have hz : w.heap.size < wr.heap.size := hb.size
    have hbw := hb.below
    clear hb
    by_cases hlt : k < G.ts.length
    · obtain ⟨g, o, rfl, hgb, hc⟩ := HT.out (by omega)
      have k0 := (hbw.cell (p := ⟨g, o + k * 3, none⟩) (Nat.lt_of_lt_of_le hgb hB)).trans (hc k hlt).1
      have k1 := (hbw.cell (p := ⟨g, o + k * 3 + 1, none⟩) (Nat.lt_of_lt_of_le hgb hB)).trans (hc k hlt).2.1
      have k2 := (hbw.cell (p := ⟨g, o + k * 3 + 2, none⟩) (Nat.lt_of_lt_of_le hgb hB)).trans (hc k hlt).2.2
      have hgs : g < wr.heap.size := by omega
      have hft := HF.out.t _ (List.getElem_mem hlt)
      have HNM := hide (fun x => rnamed_any _ hft.1 x)
      have HTM := hide (fun (x : World) (h : One w #[.slice (some ⟨g, o, none⟩) G.ts.length cT, .slice AN G.ns.length cN, .slice AR G.rs.length cR, .int .i64 G.st] x) => term_any _ G _ B x (HG.out.below h.below hB) HF.out hft.1 (Nat.le_trans hB h.below.size))
      have HLV := hide (fun (n : Int) (x : World) (h : One w #[.slice (some ⟨g, o, none⟩) G.ts.length cT, .slice AN G.ns.length cN, .slice AR G.rs.length cR, .int .i64 G.st] x) => level_any _ G n B x (HG.out.below h.below hB) (Nat.le_trans hB h.below.size))
      obtain ⟨t, qt⟩ : ∃ t, t = G.ts[k] := ⟨_, rfl⟩
      rw [← qt] at k0 k1 k2 hft HNM HTM
      have QT := hide qt.symm
      have hlb := hft.2.1
      unfold Gm.In at hlb
      clear hc hbw qt hft
      unfold Gm.term at HTM
      obtain ⟨nm, lv, wy⟩ := t
      simp only at k0 k1 k2 HNM HTM hlb
      by_cases c0 : Gm.named nm = true
      case neg =>
        have c0' := Bool.eq_false_iff.2 c0
        have HX : Hid (Gm.terms G.ts = false) := hide (terms_no hlt (by rw [QT.out]; unfold Gm.term1; simp [c0']))
        rw [c0'] at HNM
        clear c0 c0'
        go_wp2_with fail
        refine (HNM.out _).mono ?_; rintro _ _ ⟨rfl, rfl⟩
        go_wp2
        go_ret
        exact ⟨ret_bool HX.out.symm, (HB.out.alloc _).below⟩
      rw [c0] at HNM
      have C0 := hide c0
      clear c0
      by_cases c1 : Gm.find (Gm.names G.ts) nm = (k : Int)
      case neg =>
        have HX : Hid (Gm.terms G.ts = false) := hide (terms_no hlt (by rw [QT.out]; unfold Gm.term1; simp [c1]))
        have f1 : (Gm.find (Gm.names G.ts) nm != (k : Int)) = true := by simpa using c1
        clear c1
        go_wp2_with fail
        refine (HNM.out _).mono ?_; rintro _ _ ⟨rfl, rfl⟩
        go_wp2_with fail
        refine (HTM.out _ (HB.out.alloc _)).mono ?_; rintro _ w2 ⟨rfl, hb2⟩
        have HB2 := hide ((HB.out.alloc _).on hb2)
        have hb2b := (hb2.block wr.heap.size (by simp)).trans (heap_alloc_new wr _)
        have z2 : wr.heap.size < w2.heap.size := (Array.getElem?_eq_some_iff.1 hb2b).1
        have d0 := cell_of_row w2 _ 0 _ _ _ hb2b
        have d1 := cell_of_row w2 _ 1 _ _ _ hb2b
        have d2 := cell_of_row w2 _ 2 _ _ _ hb2b
        have q0' := HB2.out.c 0 _ rfl
        clear hb2 hb2b
        go_wp2
        go_ret
        exact ⟨ret_bool HX.out.symm, HB2.out.below⟩
      have f1 : (Gm.find (Gm.names G.ts) nm != (k : Int)) = false := by simpa using c1
      have C1 := hide c1
      clear c1
      by_cases c2 : 0 ≤ lv
      case neg =>
        have HX : Hid (Gm.terms G.ts = false) := hide (terms_no hlt (by rw [QT.out]; unfold Gm.term1; simp [c2]))
        have f2 := Int.not_le.1 c2
        clear c2
        go_wp2_with fail
        refine (HNM.out _).mono ?_; rintro _ _ ⟨rfl, rfl⟩
        go_wp2_with fail
        refine (HTM.out _ (HB.out.alloc _)).mono ?_; rintro _ w2 ⟨rfl, hb2⟩
        have HB2 := hide ((HB.out.alloc _).on hb2)
        have hb2b := (hb2.block wr.heap.size (by simp)).trans (heap_alloc_new wr _)
        have z2 : wr.heap.size < w2.heap.size := (Array.getElem?_eq_some_iff.1 hb2b).1
        have d0 := cell_of_row w2 _ 0 _ _ _ hb2b
        have d1 := cell_of_row w2 _ 1 _ _ _ hb2b
        have d2 := cell_of_row w2 _ 2 _ _ _ hb2b
        have q0' := HB2.out.c 0 _ rfl
        clear hb2 hb2b
        go_wp2
        go_ret
        exact ⟨ret_bool HX.out.symm, HB2.out.below⟩
      by_cases c3 : lv ≤ 24
      case neg =>
        have HX : Hid (Gm.terms G.ts = false) := hide (terms_no hlt (by rw [QT.out]; unfold Gm.term1; simp [c3]))
        have f3 := Int.not_le.1 c3
        clear c3
        go_wp2_with fail
        refine (HNM.out _).mono ?_; rintro _ _ ⟨rfl, rfl⟩
        go_wp2_with fail
        refine (HTM.out _ (HB.out.alloc _)).mono ?_; rintro _ w2 ⟨rfl, hb2⟩
        have HB2 := hide ((HB.out.alloc _).on hb2)
        have hb2b := (hb2.block wr.heap.size (by simp)).trans (heap_alloc_new wr _)
        have z2 : wr.heap.size < w2.heap.size := (Array.getElem?_eq_some_iff.1 hb2b).1
        have d0 := cell_of_row w2 _ 0 _ _ _ hb2b
        have d1 := cell_of_row w2 _ 1 _ _ _ hb2b
        have d2 := cell_of_row w2 _ 2 _ _ _ hb2b
        have q0' := HB2.out.c 0 _ rfl
        clear hb2 hb2b
        go_wp2
        go_ret
        exact ⟨ret_bool HX.out.symm, HB2.out.below⟩
      by_cases c4 : 0 ≤ wy
      case neg =>
        have HX : Hid (Gm.terms G.ts = false) := hide (terms_no hlt (by rw [QT.out]; unfold Gm.term1; simp [c4]))
        have f4 := Int.not_le.1 c4
        clear c4
        go_wp2_with fail
        refine (HNM.out _).mono ?_; rintro _ _ ⟨rfl, rfl⟩
        go_wp2_with fail
        refine (HTM.out _ (HB.out.alloc _)).mono ?_; rintro _ w2 ⟨rfl, hb2⟩
        have HB2 := hide ((HB.out.alloc _).on hb2)
        have hb2b := (hb2.block wr.heap.size (by simp)).trans (heap_alloc_new wr _)
        have z2 : wr.heap.size < w2.heap.size := (Array.getElem?_eq_some_iff.1 hb2b).1
        have d0 := cell_of_row w2 _ 0 _ _ _ hb2b
        have d1 := cell_of_row w2 _ 1 _ _ _ hb2b
        have d2 := cell_of_row w2 _ 2 _ _ _ hb2b
        have q0' := HB2.out.c 0 _ rfl
        clear hb2 hb2b
        go_wp2
        go_ret
        exact ⟨ret_bool HX.out.symm, HB2.out.below⟩
      by_cases c5 : wy ≤ 3
      case neg =>
        have HX : Hid (Gm.terms G.ts = false) := hide (terms_no hlt (by rw [QT.out]; unfold Gm.term1; simp [c5]))
        have f5 := Int.not_le.1 c5
        clear c5
        go_wp2_with fail
        refine (HNM.out _).mono ?_; rintro _ _ ⟨rfl, rfl⟩
        go_wp2_with fail
        refine (HTM.out _ (HB.out.alloc _)).mono ?_; rintro _ w2 ⟨rfl, hb2⟩
        have HB2 := hide ((HB.out.alloc _).on hb2)
        have hb2b := (hb2.block wr.heap.size (by simp)).trans (heap_alloc_new wr _)
        have z2 : wr.heap.size < w2.heap.size := (Array.getElem?_eq_some_iff.1 hb2b).1
        have d0 := cell_of_row w2 _ 0 _ _ _ hb2b
        have d1 := cell_of_row w2 _ 1 _ _ _ hb2b
        have d2 := cell_of_row w2 _ 2 _ _ _ hb2b
        have q0' := HB2.out.c 0 _ rfl
        clear hb2 hb2b
        go_wp2
        go_ret
        exact ⟨ret_bool HX.out.symm, HB2.out.below⟩
      by_cases c6 : ((lv == 0) == (wy == 0)) = true
      case neg =>
        have c6' := Bool.eq_false_iff.2 c6
        have HX : Hid (Gm.terms G.ts = false) := hide (terms_no hlt (by rw [QT.out]; unfold Gm.term1; simp [c6']))
        obtain ⟨b6, e5, e6⟩ : ∃ b : Bool, (lv == 0) = b ∧ (wy == 0) = !b := ⟨(lv == 0), rfl, by revert c6'; cases (lv == 0) <;> cases (wy == 0) <;> simp⟩
        clear c6 c6'
        go_wp2_with fail
        refine (HNM.out _).mono ?_; rintro _ _ ⟨rfl, rfl⟩
        go_wp2_with fail
        refine (HTM.out _ (HB.out.alloc _)).mono ?_; rintro _ w2 ⟨rfl, hb2⟩
        have HB2 := hide ((HB.out.alloc _).on hb2)
        have hb2b := (hb2.block wr.heap.size (by simp)).trans (heap_alloc_new wr _)
        have z2 : wr.heap.size < w2.heap.size := (Array.getElem?_eq_some_iff.1 hb2b).1
        have d0 := cell_of_row w2 _ 0 _ _ _ hb2b
        have d1 := cell_of_row w2 _ 1 _ _ _ hb2b
        have d2 := cell_of_row w2 _ 2 _ _ _ hb2b
        have q0' := HB2.out.c 0 _ rfl
        clear hb2 hb2b
        go_wp2
        go_ret
        exact ⟨ret_bool HX.out.symm, HB2.out.below⟩
      obtain ⟨b6, e5, e6⟩ : ∃ b : Bool, (lv == 0) = b ∧ (wy == 0) = b := ⟨(lv == 0), rfl, by revert c6; cases (lv == 0) <;> cases (wy == 0) <;> simp⟩
      have C6 := hide c6
      clear c6
      go_wp2_with fail
      refine (HNM.out _).mono ?_; rintro _ _ ⟨rfl, rfl⟩
      go_wp2_with fail
      refine (HTM.out _ (HB.out.alloc _)).mono ?_; rintro _ w2 ⟨rfl, hb2⟩
      have HB2 := hide ((HB.out.alloc _).on hb2)
      have hb2b := (hb2.block wr.heap.size (by simp)).trans (heap_alloc_new wr _)
      have z2 : wr.heap.size < w2.heap.size := (Array.getElem?_eq_some_iff.1 hb2b).1
      have d0 := cell_of_row w2 _ 0 _ _ _ hb2b
      have d1 := cell_of_row w2 _ 1 _ _ _ hb2b
      have d2 := cell_of_row w2 _ 2 _ _ _ hb2b
      have q0' := HB2.out.c 0 _ rfl
      have HBK : Hid (w2.heap[wr.heap.size]? = some (.cells #[.string (K.str nm), .int .i64 lv, .int .i64 wy] 79 (0, 0))) := hide hb2b
      clear hb2 hb2b
      go_wp2
      obtain ⟨wo, hwo⟩ : ∃ x : World, x = wr := ⟨_, rfl⟩
      subst hwo
      go_loopw [5] (fun vn wr => ∃ (j : Nat), 1 ≤ j ∧ j ≤ 25 ∧ vn = .int .i64 j ∧ LvOk G.ts j ∧ One w #[.slice (some ⟨g, o, none⟩) G.ts.length cT, .slice AN G.ns.length cN, .slice AR G.rs.length cR, .int .i64 G.st] wr ∧ Hid (wr.heap[wo.heap.size]? = some (.cells #[.string (K.str nm), .int .i64 lv, .int .i64 wy] 79 (0, 0)))) (fun vn _ => 30 - (intOf vn).toNat)
      case atStart => exact ⟨1, by omega, by omega, rfl, fun m h => by omega, HB2.out, HBK⟩
      case round =>
        clear q0 q0' q1 q2 q3 k0 k1 k2 d0 d1 d2 z2 hz HBK HB2 HB
        obtain ⟨j, hj1, hj2, rfl, HL, hb, HBK⟩ := hrel
        have HL := hide HL
        have HB := hide hb
        have q0 := hb.c 0 _ rfl
        have q1 := hb.c 1 _ rfl
        have q2 := hb.c 2 _ rfl
        have q3 := hb.c 3 _ rfl
        have hz : w.heap.size < wr.heap.size := hb.size
        have z2 : wo.heap.size < wr.heap.size := (Array.getElem?_eq_some_iff.1 HBK.out).1
        have d1 := cell_of_row wr _ 1 _ _ _ HBK.out
        clear hb
        by_cases hjl : (j : Int) ≤ lv
        · have HC := hide (HLV.out (j : Int) _ HB.out)
          cases q : Gm.lev (j : Int) G.ts 0
          · have HX : Hid (Gm.terms G.ts = false) := hide (terms_no hlt (by
              rw [QT.out]; unfold Gm.term1
              rw [Bool.and_eq_false_iff]
              refine .inr (decide_eq_false fun hall => ?_)
              have := hall (j - 1) (by simp only; omega)
              rw [show j - 1 + 1 = j by omega, q] at this
              cases this))
            rw [q] at HC
            clear q
            go_wp2_with fail
            refine HC.out.mono ?_; rintro _ w3 ⟨rfl, hb3⟩
            have HB3 := hide (HB.out.on hb3)
            clear hb3
            go_wp2
            go_ret
            exact ⟨ret_bool HX.out.symm, HB3.out.below⟩
          · rw [q] at HC
            have HL2 : Hid (LvOk G.ts (j + 1)) := hide (fun m h => by
              rcases Nat.lt_or_ge (m + 1) j with h1 | h1
              · exact HL.out m h1
              · obtain rfl : j = m + 1 := by omega
                exact q)
            clear q
            go_wp2_with fail
            refine HC.out.mono ?_; rintro _ w3 ⟨rfl, hb3⟩
            have HB3 := hide (HB.out.on hb3)
            have HK3 : Hid (w3.heap[wo.heap.size]? = some (.cells #[.string (K.str nm), .int .i64 lv, .int .i64 wy] 79 (0, 0))) := hide ((hb3.block wo.heap.size z2).trans HBK.out)
            clear hb3
            go_wp2
            go_roundw
            case rel => exact ⟨j + 1, by omega, by omega, by go_num, HL2.out, HB3.out, HK3⟩
            case measure => simp [intOf]; omega
        · have HX : Hid (TmOk G.ts (k + 1)) := hide (HE.out.next hlt (by
            rw [QT.out]; unfold Gm.term1
            simp only [Bool.and_eq_true, decide_eq_true_eq, beq_iff_eq]
            exact ⟨⟨⟨⟨⟨⟨⟨C0.out, C1.out⟩, c2⟩, c3⟩, c4⟩, c5⟩, beq_iff_eq.1 C6.out⟩, fun n hn => HL.out n (by omega)⟩))
          go_wp2
          go_roundw
          case rel => exact ⟨k + 1, by omega, by go_num, HX.out, HB.out⟩
          case measure => simp [intOf]; omega
    · obtain rfl : k = G.ts.length := by omega
      have HX := hide (HE.out.all (by omega))
      clear hbw
      go_wp2
      go_ret
      exact ⟨ret_bool HX.out.symm, HB.out.below⟩
end Go.Proofs.YtajcegofflmoeaaGreatDoor

namespace Go.Calm
open Go.RowKit

section
variable {P : Program} {ops : Array Oper} {Q : Exit → Act → World → Prop} {md : Region.Mode}

inductive Ph where
  | fin (last : List Nat)
  | one (p : List Nat) (k : Nat) (t : Ph)
  | two (p : List Nat) (k : Nat) (t : Ph) (k2 : Nat) (t2 : Ph)

def wpSt (P : Program) (ops : Array Oper) (Q : Exit → Act → World → Prop) (o : Option Oper) (S : World → Prop) (T : (World → Prop) → Act → World → Prop) (a : Act) (w : World) : Prop :=
  match o with
  | none => True
  | some o => ∀ K : Act → World → Prop, (∀ a2 w2, S w2 → ∀ S' : World → Prop, (∀ x, S' x → S x) → S' w2 → T S' a2 w2 → K a2 w2) →
      if Region.wanted o (yielded ops a.tmps) = true then Oper.wp P o a w K Q else K (a.put o.dst undef) w

def wpT (P : Program) (ops : Array Oper) (Q : Exit → Act → World → Prop) : Ph → (World → Prop) → Act → World → Prop
  | .fin last, S, a, w => wpQuiet P ops S (fun a' => Q .normal a' w) (pickOps ops last) a
  | .one p k t, S, a, w => wpQuiet P ops S (fun a' => wpSt P ops Q ops[k]? S (fun S' a2 w2 => wpT P ops Q t S' a2 w2) a' w) (pickOps ops p) a
  | .two p k t k2 t2, S, a, w => wpQuiet P ops S (fun a' => wpSt P ops Q ops[k]? S (fun S' a2 w2 => wpT P ops Q t S' a2 w2) a' w ∧ wpSt P ops Q ops[k2]? S (fun S' a2 w2 => wpT P ops Q t2 S' a2 w2) a' w) (pickOps ops p) a

def tB (md : Region.Mode) (ops : Array Oper) : Ph → Array Bool → Nat → Bool
  | .fin last, l, n => stillB md ops last l && (Region.ready md ops (marked last l)).isEmpty && (last.length == n)
  | .one p k t, l, n => stillB md ops p l && (match Region.ready md ops (marked p l) with | [j] => j == k | _ => false) && (ops[k]?).isSome && decide (p.length + 1 ≤ n) && tB md ops t ((marked p l).setIfInBounds k true) (n - (p.length + 1))
  | .two p k t k2 t2, l, n => stillB md ops p l && (match Region.ready md ops (marked p l) with | [j, j2] => j == k && j2 == k2 | _ => false) && (ops[k]?).isSome && (ops[k2]?).isSome && decide (p.length + 1 ≤ n) && tB md ops t ((marked p l).setIfInBounds k true) (n - (p.length + 1)) && tB md ops t2 ((marked p l).setIfInBounds k2 true) (n - (p.length + 1))

theorem quiet_mono {S : World → Prop} {Q1 Q2 : Act → Prop} (h : ∀ a, Q1 a → Q2 a) : ∀ {l : List Oper} {a : Act}, wpQuiet P ops S Q1 l a → wpQuiet P ops S Q2 l a
  | [], _, k => h _ k
  | o :: r, a, k => by
    unfold wpQuiet at k ⊢
    split
    · rename_i hw; rw [if_pos hw] at k; obtain ⟨v, h1, h2⟩ := k; exact ⟨v, h1, quiet_mono h h2⟩
    · rename_i hw; rw [if_neg hw] at k; exact quiet_mono h k

theorem any_of_t (hs : Region.noSelect ops = true) (hQ : ∀ c a d v w, Q (.panic c) (a.put d v) w → Q (.panic c) a w) :
    ∀ (t : Ph) (S : World → Prop) (listed : Array Bool) (a : Act) (w : World) (n : Nat), tB md ops t listed n = true → S w → wpT P ops Q t S a w → wpAnyH P md ops Q S n listed a w
  | .fin last, S, listed, a, w, n, hb, hS, h => by
    unfold tB at hb
    simp only [Bool.and_eq_true, List.isEmpty_iff, beq_iff_eq] at hb
    obtain ⟨⟨h1, h2⟩, rfl⟩ := hb
    have e : last.length = last.length + 0 := rfl
    rw [e]
    refine still_block hs hQ hS 0 last listed a h1 ?_
    exact quiet_mono (fun a' hq => wpAnyH_done h2 hq 0) h
  | .one p k t, S, listed, a, w, n, hb, hS, h => by
    unfold tB at hb
    simp only [Bool.and_eq_true, decide_eq_true_iff] at hb
    obtain ⟨⟨⟨⟨h1, h2⟩, h3⟩, h5⟩, h4⟩ := hb
    obtain ⟨o, ho⟩ := Option.isSome_iff_exists.1 h3
    have hrd : Region.ready md ops (marked p listed) = [k] := by
      split at h2
      · rename_i j hj; rw [hj]; rw [beq_iff_eq] at h2; rw [h2]
      · cases h2
    obtain ⟨m, rfl⟩ : ∃ m, n = p.length + (m + 1) := ⟨n - (p.length + 1), by omega⟩
    rw [show p.length + (m + 1) - (p.length + 1) = m by omega] at h4
    refine still_block hs hQ hS _ p listed a h1 ?_
    unfold wpT at h
    refine quiet_mono (fun a' hq => ?_) h
    refine wpAnyH_all hrd (by simp) fun i hi => ?_
    rw [List.mem_singleton] at hi
    subst hi
    refine wpOp_step ho fun K' hK => ?_
    rw [ho] at hq
    refine hq K' fun a2 w2 h6 S' hS' hS2 h7 => hK _ _ ⟨h6, ?_⟩
    exact anyH_mono hS' _ _ _ _ (any_of_t hs hQ t S' _ a2 w2 _ h4 hS2 h7)
  | .two p k t k2 t2, S, listed, a, w, n, hb, hS, h => by
    unfold tB at hb
    simp only [Bool.and_eq_true, decide_eq_true_iff] at hb
    obtain ⟨⟨⟨⟨⟨⟨h1, h2⟩, h3⟩, h32⟩, h5⟩, h4⟩, h42⟩ := hb
    obtain ⟨o, ho⟩ := Option.isSome_iff_exists.1 h3
    obtain ⟨o2, ho2⟩ := Option.isSome_iff_exists.1 h32
    have hrd : Region.ready md ops (marked p listed) = [k, k2] := by
      split at h2
      · rename_i j j2 hj; rw [hj]; simp only [Bool.and_eq_true, beq_iff_eq] at h2; rw [h2.1, h2.2]
      · cases h2
    obtain ⟨m, rfl⟩ : ∃ m, n = p.length + (m + 1) := ⟨n - (p.length + 1), by omega⟩
    rw [show p.length + (m + 1) - (p.length + 1) = m by omega] at h4 h42
    refine still_block hs hQ hS _ p listed a h1 ?_
    unfold wpT at h
    refine quiet_mono (fun a' hq => ?_) h
    refine wpAnyH_all hrd (by simp) fun i hi => ?_
    rw [ho, ho2] at hq
    rcases List.mem_cons.1 hi with rfl | hi
    · refine wpOp_step ho fun K' hK => ?_
      refine hq.1 K' fun a2 w2 h6 S' hS' hS2 h7 => hK _ _ ⟨h6, ?_⟩
      exact anyH_mono hS' _ _ _ _ (any_of_t hs hQ t S' _ a2 w2 _ h4 hS2 h7)
    · rw [List.mem_singleton] at hi
      subst hi
      refine wpOp_step ho2 fun K' hK => ?_
      refine hq.2 K' fun a2 w2 h6 S' hS' hS2 h7 => hK _ _ ⟨h6, ?_⟩
      exact anyH_mono hS' _ _ _ _ (any_of_t hs hQ t2 S' _ a2 w2 _ h42 hS2 h7)

theorem region_tree {id : Nat} {a : Act} {w : World} {l : List Oper} (S : World → Prop) (t : Ph) (hm : P.follows .mixedOrders = true)
    (hB : (Region.noSelect l.toArray && tB .any l.toArray t (Array.replicate l.toArray.size false) l.toArray.size) = true)
    (hQ : ∀ c a d v w, Q (.panic c) (a.put d v) w → Q (.panic c) a w) (hS : S w.drew)
    (h : wpT P l.toArray Q t S a w.drew) : (Code.region id l.toArray true).wp P Q a w := by
  simp only [Bool.and_eq_true] at hB
  refine wp_region_held (S := S) hm ?_
  exact any_of_t hB.1 hQ t S _ a w.drew _ hB.2 hS h
end

def OnR (R : Nat) (w : World) : Type := {x : World // w.grownBy x (some R)}
instance (R : Nat) (w : World) : Nonempty (OnR R w) := ⟨⟨w, World.grownBy.refl _ _⟩⟩
def OnB (g : Nat) (w : World) : Type := {x : World // x.heap[g]? = w.heap[g]?}
instance (g : Nat) (w : World) : Nonempty (OnB g w) := ⟨⟨w, rfl⟩⟩
end Go.Calm

namespace Go.Proofs.YtajcegofflmoeaaGreatDoor
set_option maxRecDepth 100000
open Go.RowKit

theorem ite_no {c : Bool} {a b : Prop} (h : c = false) : (if c = true then a else b) = b := by rw [h]; rfl
theorem nons_no {G : Gm.Gr} {k : Nat} (h : k < G.ns.length) (hn : Gm.non1 G k G.ns[k] = false) : Gm.nons G = false := by
  unfold Gm.nons
  rw [Bool.and_eq_false_iff]
  exact .inr (decide_eq_false fun q => by have := q k h; rw [hn] at this; cases this)
def NnOk (G : Gm.Gr) (k : Nat) : Prop := ∀ i (h : i < G.ns.length), i < k → Gm.non1 G i G.ns[i] = true
theorem NnOk.next {G : Gm.Gr} {k : Nat} (h : NnOk G k) (hk : k < G.ns.length) (hn : Gm.non1 G k G.ns[k] = true) : NnOk G (k + 1) := fun i hi hik => by
  rcases Nat.lt_or_ge i k with q | q
  · exact h i hi q
  · obtain rfl : i = k := by omega
    exact hn
theorem NnOk.all {G : Gm.Gr} (h : NnOk G G.ns.length) (h1 : 1 ≤ G.ns.length) (hl : G.ns.length ≤ 16) : Gm.nons G = true := by
  unfold Gm.nons
  rw [decide_eq_true h1, decide_eq_true hl, decide_eq_true fun i hi => h i hi hi]; rfl

set_option maxHeartbeats 8000000 in
theorem rnons_any (v : Value) (G : Gm.Gr) (B : Nat) (w : World) (hg : RdGr w B v G) (hf : Gm.Fit G) (hB : B ≤ w.heap.size) :
    Calls Tryz.prog 38 #[v] w fun e w' => e = .returned (.bool (Gm.nons G)) ∧ Below w.heap.size w w' := by
  have HG := hide hg
  obtain ⟨AT, cT, AN, cN, AR, cR, rfl, _, ⟨hl, hm⟩, _, _, ht, _⟩ := hg
  have HT := hide ht
  have HF := hide hf
  have HS0 := hide (One.start w #[.slice AT G.ts.length cT, .slice AN G.ns.length cN, .slice AR G.rs.length cR, .int .i64 G.st])
  clear ht hf
  by_cases h1 : G.ns.length < 1
  · have HX : Hid (Gm.nons G = false) := hide (by unfold Gm.nons; rw [decide_eq_false (by omega)]; rfl)
    rw [HX.out]
    go_enter Tryz.func38, Tryz.ntmps38
    go_wp2
    go_ret
    exact ⟨rfl, HS0.out.below⟩
  by_cases h16 : 16 < G.ns.length
  · have HX : Hid (Gm.nons G = false) := hide (by unfold Gm.nons; rw [decide_eq_false (show ¬ G.ns.length ≤ 16 by omega)]; simp)
    rw [HX.out]
    go_enter Tryz.func38, Tryz.ntmps38
    go_wp2
    go_ret
    exact ⟨rfl, HS0.out.below⟩
  go_enter Tryz.func38, Tryz.ntmps38
  go_wp2
  go_loopw [3] (fun vi wr => ∃ (k : Nat), k ≤ G.ns.length ∧ vi = .int .i64 k ∧ NnOk G k ∧ One w #[.slice AT G.ts.length cT, .slice AN G.ns.length cN, .slice AR G.rs.length cR, .int .i64 G.st] wr) (fun vi _ => G.ns.length - (intOf vi).toNat)
  case atStart => exact ⟨0, Nat.zero_le _, rfl, fun _ _ h => by omega, HS0.out⟩
  case round =>
    obtain ⟨k, hk, rfl, HE, hb⟩ := hrel
    have HE := hide HE
    have HB := hide hb
    have q1 := hb.c 1 _ rfl
    have hz : w.heap.size < wr.heap.size := hb.size
    have hbw := hb.below
    by_cases hlt : k < G.ns.length
    · obtain ⟨g, o, rfl, hgb, hc⟩ := HT.out (by omega)
      have k0 := (hbw.cell (p := ⟨g, o + k, none⟩) (Nat.lt_of_lt_of_le hgb hB)).trans (hc k hlt)
      have hgs : g < wr.heap.size := by omega
      have hft := HF.out.n _ (List.getElem_mem hlt)
      have HNM := hide (fun x => rname_any _ hft.1 x)
      have HTM := hide (fun (x : World) (h : One w #[.slice AT G.ts.length cT, .slice (some ⟨g, o, none⟩) G.ns.length cN, .slice AR G.rs.length cR, .int .i64 G.st] x) => term_any _ G _ B x (HG.out.below h.below hB) HF.out hft (Nat.le_trans hB h.below.size))
      have HNO := hide (fun (x : World) (h : One w #[.slice AT G.ts.length cT, .slice (some ⟨g, o, none⟩) G.ns.length cN, .slice AR G.rs.length cR, .int .i64 G.st] x) => rnon_any _ G _ B x (HG.out.below h.below hB) HF.out hft (Nat.le_trans hB h.below.size))
      obtain ⟨s, qs⟩ : ∃ t, t = G.ns[k] := ⟨_, rfl⟩
      rw [← qs] at k0 hft HNM HTM HNO
      have QS := hide qs.symm
      have kk0 : (0 : Int) ≤ (k : Int) := by omega
      have kk1 : (k : Int) < (G.ns.length : Int) := by omega
      have q0 := hb.c 0 _ rfl
      have q2 := hb.c 2 _ rfl
      have q3 := hb.c 3 _ rfl
      have HD1 := hide (below_drewN (Below.refl wr.heap.size wr) 1)
      have A0 := fun y : Calm.On wr.heap.size wr => (y.2.cell (p := ⟨g, o + k, none⟩) hgs).trans k0
      have Q0 := fun y : Calm.On wr.heap.size wr => (y.2.cell (p := ⟨w.heap.size, 0, none⟩) hz).trans q0
      have Q1 := fun y : Calm.On wr.heap.size wr => (y.2.cell (p := ⟨w.heap.size, 1, none⟩) hz).trans q1
      have Q2 := fun y : Calm.On wr.heap.size wr => (y.2.cell (p := ⟨w.heap.size, 2, none⟩) hz).trans q2
      have Q3 := fun y : Calm.On wr.heap.size wr => (y.2.cell (p := ⟨w.heap.size, 3, none⟩) hz).trans q3
      clear hc hbw qs hft hb q0 q2 q3
      unfold Gm.term at HTM
      unfold Gm.non at HNO
      by_cases c0 : T.isName s = true
      case neg =>
        have HX : Hid (Gm.nons G = false) := hide (nons_no hlt (by rw [QS.out]; unfold Gm.non1; simp [Bool.eq_false_iff.2 c0]))
        rw [Bool.eq_false_iff.2 c0] at HNM
        clear c0 HNO HTM
        go_wp2_with fail
        refine Calm.region_tree (fun x => ∃ y : Calm.On wr.heap.size wr, x = y.1) (.one [0, 1, 2, 3, 4] 5 (.one [6, 7, 8, 9, 10, 11, 12, 13, 15] 14 (.one [16, 17, 18, 19, 20, 21, 22, 23, 24] 25 (.fin [26, 27])))) (by kernel_rfl) (by kernel_rfl) (fun _ _ d _ _ h => by cases d <;> exact h) ⟨⟨wr.drew, below_drewN (Below.refl _ _) 1⟩, rfl⟩ ?_
        clear q1 k0
        simp only [Calm.wpT, Calm.wpSt, Calm.pickOps, List.getElem?_toArray, List.getElem?_cons_zero, List.getElem?_cons_succ]
        repeat (go_big_quiet_step (fail))
        refine wpQuiet_nil ?_
        intro KK hKK
        rw [if_pos (by rfl)]
        go_wp2_with fail
        refine (HNM.out _).mono ?_; rintro _ _ ⟨rfl, rfl⟩
        go_wp2_with fail
        refine hKK _ _ ⟨⟨_, HD1.out⟩, rfl⟩ (fun x => ∃ y : Calm.On wr.heap.size wr, x = y.1) (fun _ h => h) ⟨⟨_, HD1.out⟩, rfl⟩ ?_
        repeat (go_big_quiet_step (fail))
        refine wpQuiet_nil ?_
        intro KK hKK
        rw [ite_no (by rfl)]
        refine hKK _ _ ⟨⟨_, HD1.out⟩, rfl⟩ (fun x => ∃ y : Calm.On wr.heap.size wr, x = y.1) (fun _ h => h) ⟨⟨_, HD1.out⟩, rfl⟩ ?_
        go_frame
        repeat (go_big_quiet_step (fail))
        refine wpQuiet_nil ?_
        intro KK hKK
        rw [ite_no (by rfl)]
        refine hKK _ _ ⟨⟨_, HD1.out⟩, rfl⟩ (fun x => ∃ y : Calm.On wr.heap.size wr, x = y.1) (fun _ h => h) ⟨⟨_, HD1.out⟩, rfl⟩ ?_
        go_frame
        repeat (go_big_quiet_step (fail))
        refine wpQuiet_nil ?_
        clear hKK A0 Q0
        have HE2 := hide (HB.out.on HD1.out)
        go_wp2
        go_ret
        exact ⟨ret_bool HX.out.symm, HE2.out.below⟩
      rw [c0] at HNM
      by_cases c1 : Gm.find G.ns s = (k : Int)
      case neg =>
        have HX : Hid (Gm.nons G = false) := hide (nons_no hlt (by rw [QS.out]; unfold Gm.non1 Gm.non; simp [c1]))
        have f1 : (Gm.find G.ns s != (k : Int)) = true := by simpa using c1
        clear c0 c1 HTM
        go_wp2_with fail
        refine Calm.region_tree (fun x => ∃ y : Calm.On wr.heap.size wr, x = y.1) (.one [0, 1, 2, 3, 4] 5 (.one [6, 7, 8, 9, 10, 11, 12, 13, 15] 14 (.one [16, 17, 18, 19, 20, 21, 22, 23, 24] 25 (.fin [26, 27])))) (by kernel_rfl) (by kernel_rfl) (fun _ _ d _ _ h => by cases d <;> exact h) ⟨⟨wr.drew, below_drewN (Below.refl _ _) 1⟩, rfl⟩ ?_
        clear q1 k0
        simp only [Calm.wpT, Calm.wpSt, Calm.pickOps, List.getElem?_toArray, List.getElem?_cons_zero, List.getElem?_cons_succ]
        repeat (go_big_quiet_step (fail))
        refine wpQuiet_nil ?_
        intro KK hKK
        rw [if_pos (by rfl)]
        go_wp2_with fail
        refine (HNM.out _).mono ?_; rintro _ _ ⟨rfl, rfl⟩
        go_wp2_with fail
        refine hKK _ _ ⟨⟨_, HD1.out⟩, rfl⟩ (fun x => ∃ y : Calm.On wr.heap.size wr, x = y.1) (fun _ h => h) ⟨⟨_, HD1.out⟩, rfl⟩ ?_
        repeat (go_big_quiet_step (fail))
        refine wpQuiet_nil ?_
        intro KK hKK
        rw [if_pos (by rfl)]
        go_wp2_with fail
        refine (HNO.out _ (HB.out.on HD1.out)).mono ?_; rintro _ w2 ⟨rfl, hb2⟩
        have HD2 := hide (HD1.out.trans (hb2.mono HD1.out.size))
        clear hb2
        go_wp2_with fail
        refine hKK _ _ ⟨⟨_, HD2.out⟩, rfl⟩ (fun x => ∃ y : Calm.On wr.heap.size wr, x = y.1) (fun _ h => h) ⟨⟨_, HD2.out⟩, rfl⟩ ?_
        repeat (go_big_quiet_step (fail))
        refine wpQuiet_nil ?_
        intro KK hKK
        rw [ite_no (by rfl)]
        refine hKK _ _ ⟨⟨_, HD2.out⟩, rfl⟩ (fun x => ∃ y : Calm.On wr.heap.size wr, x = y.1) (fun _ h => h) ⟨⟨_, HD2.out⟩, rfl⟩ ?_
        go_frame
        repeat (go_big_quiet_step (fail))
        refine wpQuiet_nil ?_
        clear hKK A0 Q0
        have HE2 := hide (HB.out.on HD2.out)
        go_wp2
        go_ret
        exact ⟨ret_bool HX.out.symm, HE2.out.below⟩
      have f1 : (Gm.find G.ns s != (k : Int)) = false := by simpa using c1
      by_cases c2 : Gm.find (Gm.names G.ts) s < 0
      case neg =>
        have HX : Hid (Gm.nons G = false) := hide (nons_no hlt (by rw [QS.out]; unfold Gm.non1 Gm.term; rw [decide_eq_false c2]; simp))
        have f2 : decide (0 ≤ Gm.find (Gm.names G.ts) s) = true := by simp; omega
        clear c0 c1 c2
        go_wp2_with fail
        refine Calm.region_tree (fun x => ∃ y : Calm.On wr.heap.size wr, x = y.1) (.one [0, 1, 2, 3, 4] 5 (.one [6, 7, 8, 9, 10, 11, 12, 13, 15] 14 (.one [16, 17, 18, 19, 20, 21, 22, 23, 24] 25 (.fin [26, 27])))) (by kernel_rfl) (by kernel_rfl) (fun _ _ d _ _ h => by cases d <;> exact h) ⟨⟨wr.drew, below_drewN (Below.refl _ _) 1⟩, rfl⟩ ?_
        clear q1 k0
        simp only [Calm.wpT, Calm.wpSt, Calm.pickOps, List.getElem?_toArray, List.getElem?_cons_zero, List.getElem?_cons_succ]
        repeat (go_big_quiet_step (fail))
        refine wpQuiet_nil ?_
        intro KK hKK
        rw [if_pos (by rfl)]
        go_wp2_with fail
        refine (HNM.out _).mono ?_; rintro _ _ ⟨rfl, rfl⟩
        go_wp2_with fail
        refine hKK _ _ ⟨⟨_, HD1.out⟩, rfl⟩ (fun x => ∃ y : Calm.On wr.heap.size wr, x = y.1) (fun _ h => h) ⟨⟨_, HD1.out⟩, rfl⟩ ?_
        repeat (go_big_quiet_step (fail))
        refine wpQuiet_nil ?_
        intro KK hKK
        rw [if_pos (by rfl)]
        go_wp2_with fail
        refine (HNO.out _ (HB.out.on HD1.out)).mono ?_; rintro _ w2 ⟨rfl, hb2⟩
        have HD2 := hide (HD1.out.trans (hb2.mono HD1.out.size))
        clear hb2
        go_wp2_with fail
        refine hKK _ _ ⟨⟨_, HD2.out⟩, rfl⟩ (fun x => ∃ y : Calm.On wr.heap.size wr, x = y.1) (fun _ h => h) ⟨⟨_, HD2.out⟩, rfl⟩ ?_
        repeat (go_big_quiet_step (fail))
        refine wpQuiet_nil ?_
        intro KK hKK
        rw [if_pos (by rfl)]
        go_wp2_with fail
        refine (HTM.out _ (HB.out.on HD2.out)).mono ?_; rintro _ w3 ⟨rfl, hb3⟩
        have HD3 := hide (HD2.out.trans (hb3.mono HD2.out.size))
        clear hb3
        go_wp2_with fail
        refine hKK _ _ ⟨⟨_, HD3.out⟩, rfl⟩ (fun x => ∃ y : Calm.On wr.heap.size wr, x = y.1) (fun _ h => h) ⟨⟨_, HD3.out⟩, rfl⟩ ?_
        repeat (go_big_quiet_step (fail))
        refine wpQuiet_nil ?_
        clear hKK A0 Q0
        have HE2 := hide (HB.out.on HD3.out)
        go_wp2
        go_ret
        exact ⟨ret_bool HX.out.symm, HE2.out.below⟩
      have HX : Hid (NnOk G (k + 1)) := hide (HE.out.next hlt (by rw [QS.out]; unfold Gm.non1 Gm.non Gm.term; rw [c0, decide_eq_true c2, c1]; simp))
      have f2 : decide (0 ≤ Gm.find (Gm.names G.ts) s) = false := by simp; omega
      clear c0 c1 c2
      go_wp2_with fail
      refine Calm.region_tree (fun x => ∃ y : Calm.On wr.heap.size wr, x = y.1) (.one [0, 1, 2, 3, 4] 5 (.one [6, 7, 8, 9, 10, 11, 12, 13, 15] 14 (.one [16, 17, 18, 19, 20, 21, 22, 23, 24] 25 (.fin [26, 27])))) (by kernel_rfl) (by kernel_rfl) (fun _ _ d _ _ h => by cases d <;> exact h) ⟨⟨wr.drew, below_drewN (Below.refl _ _) 1⟩, rfl⟩ ?_
      clear q1 k0
      simp only [Calm.wpT, Calm.wpSt, Calm.pickOps, List.getElem?_toArray, List.getElem?_cons_zero, List.getElem?_cons_succ]
      repeat (go_big_quiet_step (fail))
      refine wpQuiet_nil ?_
      intro KK hKK
      rw [if_pos (by rfl)]
      go_wp2_with fail
      refine (HNM.out _).mono ?_; rintro _ _ ⟨rfl, rfl⟩
      go_wp2_with fail
      refine hKK _ _ ⟨⟨_, HD1.out⟩, rfl⟩ (fun x => ∃ y : Calm.On wr.heap.size wr, x = y.1) (fun _ h => h) ⟨⟨_, HD1.out⟩, rfl⟩ ?_
      repeat (go_big_quiet_step (fail))
      refine wpQuiet_nil ?_
      intro KK hKK
      rw [if_pos (by rfl)]
      go_wp2_with fail
      refine (HNO.out _ (HB.out.on HD1.out)).mono ?_; rintro _ w2 ⟨rfl, hb2⟩
      have HD2 := hide (HD1.out.trans (hb2.mono HD1.out.size))
      clear hb2
      go_wp2_with fail
      refine hKK _ _ ⟨⟨_, HD2.out⟩, rfl⟩ (fun x => ∃ y : Calm.On wr.heap.size wr, x = y.1) (fun _ h => h) ⟨⟨_, HD2.out⟩, rfl⟩ ?_
      repeat (go_big_quiet_step (fail))
      refine wpQuiet_nil ?_
      intro KK hKK
      rw [if_pos (by rfl)]
      go_wp2_with fail
      refine (HTM.out _ (HB.out.on HD2.out)).mono ?_; rintro _ w3 ⟨rfl, hb3⟩
      have HD3 := hide (HD2.out.trans (hb3.mono HD2.out.size))
      clear hb3
      go_wp2_with fail
      refine hKK _ _ ⟨⟨_, HD3.out⟩, rfl⟩ (fun x => ∃ y : Calm.On wr.heap.size wr, x = y.1) (fun _ h => h) ⟨⟨_, HD3.out⟩, rfl⟩ ?_
      repeat (go_big_quiet_step (fail))
      refine wpQuiet_nil ?_
      clear hKK A0 Q0
      have HE2 := hide (HB.out.on HD3.out)
      go_wp2
      go_roundw
      case rel => exact ⟨k + 1, by omega, by go_num, HX.out, HE2.out⟩
      case measure => simp [intOf]; omega
    · obtain rfl : k = G.ns.length := by omega
      have HX := hide (HE.out.all (by omega) (by omega))
      clear hbw hb
      go_wp2
      go_ret
      exact ⟨ret_bool HX.out.symm, HB.out.below⟩

theorem rule_no {G : Gm.Gr} {x : Gm.Rl} {k : Nat} (h : k < x.r.length) (hn : (Gm.has G x.r[k] && !(decide (0 ≤ x.r[k]) && x.p == -1)) = false) : Gm.rule G x = false := by
  unfold Gm.rule
  rw [Bool.and_eq_false_iff]
  refine .inr ?_
  rw [List.all_eq_false]
  exact ⟨_, List.getElem_mem h, by rw [hn]; simp⟩
def ZsOk (G : Gm.Gr) (x : Gm.Rl) (k : Nat) : Prop := ∀ i (h : i < x.r.length), i < k → (Gm.has G x.r[i] && !(decide (0 ≤ x.r[i]) && x.p == -1)) = true
theorem ZsOk.next {G : Gm.Gr} {x : Gm.Rl} {k : Nat} (h : ZsOk G x k) (hk : k < x.r.length) (hn : (Gm.has G x.r[k] && !(decide (0 ≤ x.r[k]) && x.p == -1)) = true) : ZsOk G x (k + 1) := fun i hi hik => by
  rcases Nat.lt_or_ge i k with q | q
  · exact h i hi q
  · obtain rfl : i = k := by omega
    exact hn
theorem ZsOk.all {G : Gm.Gr} {x : Gm.Rl} (h : ZsOk G x x.r.length) (h1 : x.r.length ≤ 6) (h2 : -1 ≤ x.p) (h3 : x.p < G.ts.length) : Gm.rule G x = true := by
  unfold Gm.rule
  rw [decide_eq_true h1, decide_eq_true h2, decide_eq_true h3]
  simp only [Bool.true_and]
  rw [List.all_eq_true]
  intro z hz
  obtain ⟨i, hi, rfl⟩ := List.getElem_of_mem hz
  exact h i hi hi

set_option maxHeartbeats 8000000 in
theorem rrule_any (v : Value) (G : Gm.Gr) (B : Nat) (x : Gm.Rl) (A : Option Addr) (c : Nat) (w : World) (hg : RdGr w B v G) (hr : RdI w B A x.r) (hx : ∀ z ∈ x.r, Gm.In z) (hB : B ≤ w.heap.size) :
    Calls Tryz.prog 39 #[v, .agg #[.int .i64 x.l, .slice A x.r.length c, .int .i64 x.p]] w fun e w' => e = .returned (.bool (Gm.rule G x)) ∧ Below w.heap.size w w' := by
  have HG := hide hg
  obtain ⟨AT, cT, AN, cN, AR, cR, rfl, _, _, _, _, _, _⟩ := hg
  have HT := hide hr
  have HF := hide hx
  have HB0 := hide ((One.start w #[.slice AT G.ts.length cT, .slice AN G.ns.length cN, .slice AR G.rs.length cR, .int .i64 G.st]).alloc (.cells #[.int .i64 x.l, .slice A x.r.length c, .int .i64 x.p] 51))
  have HK0 : Hid (((w.alloc (.cells #[.slice AT G.ts.length cT, .slice AN G.ns.length cN, .slice AR G.rs.length cR, .int .i64 G.st] 26)).alloc (.cells #[.int .i64 x.l, .slice A x.r.length c, .int .i64 x.p] 51)).heap[w.heap.size + 1]? = some (.cells #[.int .i64 x.l, .slice A x.r.length c, .int .i64 x.p] 51 (0, 0))) := hide (by
    have := heap_alloc_new (w.alloc (.cells #[.slice AT G.ts.length cT, .slice AN G.ns.length cN, .slice AR G.rs.length cR, .int .i64 G.st] 26)) (.cells #[.int .i64 x.l, .slice A x.r.length c, .int .i64 x.p] 51)
    simpa using this)
  clear hr hx
  by_cases h1 : 6 < x.r.length
  · have HX : Hid (Gm.rule G x = false) := hide (by unfold Gm.rule; rw [decide_eq_false (show ¬ x.r.length ≤ 6 by omega)]; rfl)
    rw [HX.out]
    go_enter Tryz.func39, Tryz.ntmps39
    go_wp2
    go_ret
    exact ⟨rfl, HB0.out.below⟩
  by_cases h2 : x.p < -1
  · have HX : Hid (Gm.rule G x = false) := hide (by unfold Gm.rule; rw [decide_eq_false (show ¬ -1 ≤ x.p by omega)]; simp)
    rw [HX.out]
    go_enter Tryz.func39, Tryz.ntmps39
    go_wp2
    go_ret
    exact ⟨rfl, HB0.out.below⟩
  by_cases h3 : (G.ts.length : Int) ≤ x.p
  · have HX : Hid (Gm.rule G x = false) := hide (by unfold Gm.rule; rw [decide_eq_false (show ¬ x.p < (G.ts.length : Int) by omega)]; simp)
    rw [HX.out]
    go_enter Tryz.func39, Tryz.ntmps39
    go_wp2
    go_ret
    exact ⟨rfl, HB0.out.below⟩
  go_enter Tryz.func39, Tryz.ntmps39
  go_wp2
  go_loopw [5] (fun vi wr => ∃ (k : Nat), k ≤ x.r.length ∧ vi = .int .i64 k ∧ ZsOk G x k ∧ One w #[.slice AT G.ts.length cT, .slice AN G.ns.length cN, .slice AR G.rs.length cR, .int .i64 G.st] wr ∧ Hid (wr.heap[w.heap.size + 1]? = some (.cells #[.int .i64 x.l, .slice A x.r.length c, .int .i64 x.p] 51 (0, 0)))) (fun vi _ => x.r.length - (intOf vi).toNat)
  case atStart => exact ⟨0, Nat.zero_le _, rfl, fun _ _ h => by omega, HB0.out, HK0⟩
  case round =>
    obtain ⟨k, hk, rfl, HE, hb, HBK⟩ := hrel
    have HE := hide HE
    have HB := hide hb
    have hz : w.heap.size < wr.heap.size := hb.size
    have hz1 : w.heap.size + 1 < wr.heap.size := (Array.getElem?_eq_some_iff.1 HBK.out).1
    have hbw := hb.below
    have q0 := hb.c 0 _ rfl
    have q1 := hb.c 1 _ rfl
    have q2 := hb.c 2 _ rfl
    have q3 := hb.c 3 _ rfl
    have d0 := cell_of_row wr _ 0 _ _ _ HBK.out
    have d1 := cell_of_row wr _ 1 _ _ _ HBK.out
    have d2 := cell_of_row wr _ 2 _ _ _ HBK.out
    clear hb
    by_cases hlt : k < x.r.length
    · obtain ⟨g, o, rfl, hgb, hc⟩ := HT.out (by omega)
      have k0 := (hbw.cell (p := ⟨g, o + k, none⟩) (Nat.lt_of_lt_of_le hgb hB)).trans (hc k hlt)
      rw [L.gd_lt hlt] at k0
      have hgs : g < wr.heap.size := by omega
      have hft := HF.out _ (List.getElem_mem hlt)
      have HH := hide (fun (y : World) (h : One w #[.slice AT G.ts.length cT, .slice AN G.ns.length cN, .slice AR G.rs.length cR, .int .i64 G.st] y) => rhas_any9 _ G B x.r[k] hft y (HG.out.below h.below hB))
      obtain ⟨z, qz⟩ : ∃ t, t = x.r[k] := ⟨_, rfl⟩
      rw [← qz] at k0 HH
      have QZ := hide qz.symm
      have kk0 : (0 : Int) ≤ (k : Int) := by omega
      have kk1 : (k : Int) < (x.r.length : Int) := by omega
      have HD1 := hide (below_drewN (Below.refl wr.heap.size wr) 1)
      have A0 := fun y : Calm.On wr.heap.size wr => (y.2.cell (p := ⟨g, o + k, none⟩) hgs).trans k0
      have Q0 := fun y : Calm.On wr.heap.size wr => (y.2.cell (p := ⟨w.heap.size, 0, none⟩) hz).trans q0
      have Q1 := fun y : Calm.On wr.heap.size wr => (y.2.cell (p := ⟨w.heap.size, 1, none⟩) hz).trans q1
      have Q2 := fun y : Calm.On wr.heap.size wr => (y.2.cell (p := ⟨w.heap.size, 2, none⟩) hz).trans q2
      have Q3 := fun y : Calm.On wr.heap.size wr => (y.2.cell (p := ⟨w.heap.size, 3, none⟩) hz).trans q3
      have D0 := fun y : Calm.On wr.heap.size wr => (y.2.cell (p := ⟨w.heap.size + 1, 0, none⟩) hz1).trans d0
      have D1 := fun y : Calm.On wr.heap.size wr => (y.2.cell (p := ⟨w.heap.size + 1, 1, none⟩) hz1).trans d1
      have D2 := fun y : Calm.On wr.heap.size wr => (y.2.cell (p := ⟨w.heap.size + 1, 2, none⟩) hz1).trans d2
      clear hc hbw qz hft
      cases c0 : Gm.has G z
      · have HX : Hid (Gm.rule G x = false) := hide (rule_no hlt (by rw [QZ.out]; simp [c0]))
        rw [c0] at HH
        clear c0
        go_wp2_with fail
        refine Calm.region_tree (fun x => ∃ y : Calm.On wr.heap.size wr, x = y.1) (.one [0, 1, 2, 3, 4, 5] 6 (.fin [7, 8, 9, 10, 11, 12, 13, 14, 15, 16, 17, 18, 19, 20])) (by kernel_rfl) (by kernel_rfl) (fun _ _ d _ _ h => by cases d <;> exact h) ⟨⟨wr.drew, below_drewN (Below.refl _ _) 1⟩, rfl⟩ ?_
        clear q0 q1 q2 q3 d0 d1 d2 k0
        simp only [Calm.wpT, Calm.wpSt, Calm.pickOps, List.getElem?_toArray, List.getElem?_cons_zero, List.getElem?_cons_succ]
        repeat (go_big_quiet_step (fail))
        refine wpQuiet_nil ?_
        intro KK hKK
        rw [if_pos (by rfl)]
        go_wp2_with fail
        refine (HH.out _ (HB.out.on HD1.out)).mono ?_; rintro _ w2 ⟨rfl, hb2⟩
        have HD2 := hide (HD1.out.trans (hb2.mono HD1.out.size))
        clear hb2
        go_wp2_with fail
        refine hKK _ _ ⟨⟨_, HD2.out⟩, rfl⟩ (fun x => ∃ y : Calm.On wr.heap.size wr, x = y.1) (fun _ h => h) ⟨⟨_, HD2.out⟩, rfl⟩ ?_
        repeat (go_big_quiet_step (fail))
        refine wpQuiet_nil ?_
        clear hKK A0 Q0 Q1 Q2 Q3 D0 D1 D2
        have HE2 := hide (HB.out.on HD2.out)
        have HK2 := hide ((HD2.out.block (w.heap.size + 1) (Nat.lt_of_succ_le hz1)).trans HBK.out)
        go_wp2
        go_ret
        exact ⟨ret_bool HX.out.symm, HE2.out.below⟩
      · rw [c0] at HH
        have C0 := hide c0
        clear c0
        by_cases c1 : 0 ≤ z
        · by_cases c2 : x.p = -1
          · have HX : Hid (Gm.rule G x = false) := hide (rule_no hlt (by rw [QZ.out]; simp [c1, c2]))
            have f2 : (x.p == -1) = true := by simpa using c2
            have f1 : decide (0 ≤ z) = true := decide_eq_true c1
            clear c2
            go_wp2_with fail
            refine Calm.region_tree (fun x => ∃ y : Calm.On wr.heap.size wr, x = y.1) (.one [0, 1, 2, 3, 4, 5] 6 (.fin [7, 8, 9, 10, 11, 12, 13, 14, 15, 16, 17, 18, 19, 20])) (by kernel_rfl) (by kernel_rfl) (fun _ _ d _ _ h => by cases d <;> exact h) ⟨⟨wr.drew, below_drewN (Below.refl _ _) 1⟩, rfl⟩ ?_
            clear q0 q1 q2 q3 d0 d1 d2 k0
            simp only [Calm.wpT, Calm.wpSt, Calm.pickOps, List.getElem?_toArray, List.getElem?_cons_zero, List.getElem?_cons_succ]
            repeat (go_big_quiet_step (fail))
            refine wpQuiet_nil ?_
            intro KK hKK
            rw [if_pos (by rfl)]
            go_wp2_with fail
            refine (HH.out _ (HB.out.on HD1.out)).mono ?_; rintro _ w2 ⟨rfl, hb2⟩
            have HD2 := hide (HD1.out.trans (hb2.mono HD1.out.size))
            clear hb2
            go_wp2_with fail
            refine hKK _ _ ⟨⟨_, HD2.out⟩, rfl⟩ (fun x => ∃ y : Calm.On wr.heap.size wr, x = y.1) (fun _ h => h) ⟨⟨_, HD2.out⟩, rfl⟩ ?_
            repeat (go_big_quiet_step (fail))
            refine wpQuiet_nil ?_
            clear hKK A0 Q0 Q1 Q2 Q3 D0 D1 D2
            have HE2 := hide (HB.out.on HD2.out)
            have HK2 := hide ((HD2.out.block (w.heap.size + 1) (Nat.lt_of_succ_le hz1)).trans HBK.out)
            go_wp2
            go_ret
            exact ⟨ret_bool HX.out.symm, HE2.out.below⟩
          · have HX : Hid (ZsOk G x (k + 1)) := hide (HE.out.next hlt (by rw [QZ.out, C0.out]; simp [c2]))
            have f2 : (x.p == -1) = false := by simpa using c2
            have f1 : decide (0 ≤ z) = true := decide_eq_true c1
            clear c2
            go_wp2_with fail
            refine Calm.region_tree (fun x => ∃ y : Calm.On wr.heap.size wr, x = y.1) (.one [0, 1, 2, 3, 4, 5] 6 (.fin [7, 8, 9, 10, 11, 12, 13, 14, 15, 16, 17, 18, 19, 20])) (by kernel_rfl) (by kernel_rfl) (fun _ _ d _ _ h => by cases d <;> exact h) ⟨⟨wr.drew, below_drewN (Below.refl _ _) 1⟩, rfl⟩ ?_
            clear q0 q1 q2 q3 d0 d1 d2 k0
            simp only [Calm.wpT, Calm.wpSt, Calm.pickOps, List.getElem?_toArray, List.getElem?_cons_zero, List.getElem?_cons_succ]
            repeat (go_big_quiet_step (fail))
            refine wpQuiet_nil ?_
            intro KK hKK
            rw [if_pos (by rfl)]
            go_wp2_with fail
            refine (HH.out _ (HB.out.on HD1.out)).mono ?_; rintro _ w2 ⟨rfl, hb2⟩
            have HD2 := hide (HD1.out.trans (hb2.mono HD1.out.size))
            clear hb2
            go_wp2_with fail
            refine hKK _ _ ⟨⟨_, HD2.out⟩, rfl⟩ (fun x => ∃ y : Calm.On wr.heap.size wr, x = y.1) (fun _ h => h) ⟨⟨_, HD2.out⟩, rfl⟩ ?_
            repeat (go_big_quiet_step (fail))
            refine wpQuiet_nil ?_
            clear hKK A0 Q0 Q1 Q2 Q3 D0 D1 D2
            have HE2 := hide (HB.out.on HD2.out)
            have HK2 := hide ((HD2.out.block (w.heap.size + 1) (Nat.lt_of_succ_le hz1)).trans HBK.out)
            go_wp2
            go_roundw
            case rel => exact ⟨k + 1, by omega, by go_num, HX.out, HE2.out, HK2⟩
            case measure => simp [intOf]; omega
        · have HX : Hid (ZsOk G x (k + 1)) := hide (HE.out.next hlt (by rw [QZ.out, C0.out]; simp [c1]))
          have f1 : decide (0 ≤ z) = false := decide_eq_false c1
          go_wp2_with fail
          refine Calm.region_tree (fun x => ∃ y : Calm.On wr.heap.size wr, x = y.1) (.one [0, 1, 2, 3, 4, 5] 6 (.fin [7, 8, 9, 10, 11, 12, 13, 14, 15, 16, 17, 18, 19, 20])) (by kernel_rfl) (by kernel_rfl) (fun _ _ d _ _ h => by cases d <;> exact h) ⟨⟨wr.drew, below_drewN (Below.refl _ _) 1⟩, rfl⟩ ?_
          clear q0 q1 q2 q3 d0 d1 d2 k0
          simp only [Calm.wpT, Calm.wpSt, Calm.pickOps, List.getElem?_toArray, List.getElem?_cons_zero, List.getElem?_cons_succ]
          repeat (go_big_quiet_step (fail))
          refine wpQuiet_nil ?_
          intro KK hKK
          rw [if_pos (by rfl)]
          go_wp2_with fail
          refine (HH.out _ (HB.out.on HD1.out)).mono ?_; rintro _ w2 ⟨rfl, hb2⟩
          have HD2 := hide (HD1.out.trans (hb2.mono HD1.out.size))
          clear hb2
          go_wp2_with fail
          refine hKK _ _ ⟨⟨_, HD2.out⟩, rfl⟩ (fun x => ∃ y : Calm.On wr.heap.size wr, x = y.1) (fun _ h => h) ⟨⟨_, HD2.out⟩, rfl⟩ ?_
          repeat (go_big_quiet_step (fail))
          refine wpQuiet_nil ?_
          clear hKK A0 Q0 Q1 Q2 Q3 D0 D1 D2
          have HE2 := hide (HB.out.on HD2.out)
          have HK2 := hide ((HD2.out.block (w.heap.size + 1) (Nat.lt_of_succ_le hz1)).trans HBK.out)
          go_wp2
          go_roundw
          case rel => exact ⟨k + 1, by omega, by go_num, HX.out, HE2.out, HK2⟩
          case measure => simp [intOf]; omega
    · obtain rfl : k = x.r.length := by omega
      have HX := hide (HE.out.all (by omega) (by omega) (by omega))
      clear hbw
      go_wp2
      go_ret
      exact ⟨ret_bool HX.out.symm, HB.out.below⟩
end Go.Proofs.YtajcegofflmoeaaGreatDoor

namespace Go.Proofs.YtajcegofflmoeaaGreatDoor
set_option maxRecDepth 100000
open Go.RowKit

theorem rules_drop {G : Gm.Gr} {rs : List Gm.Rl} {k : Nat} (h : k < rs.length) (z : Int) : Gm.rules G (rs.drop k) z = if rs[k].l < 0 ∨ z + 1 < rs[k].l ∨ Gm.rule G rs[k] = false then false else Gm.rules G (rs.drop (k + 1)) (if z < rs[k].l then rs[k].l else z) := by
  rw [List.drop_eq_getElem_cons h, Gm.rules]
theorem rules_end {G : Gm.Gr} {rs : List Gm.Rl} {k : Nat} (h : rs.length ≤ k) (z : Int) : Gm.rules G (rs.drop k) z = (z == (G.ns.length : Int) - 1) := by
  rw [List.drop_eq_nil_of_le h, Gm.rules]

set_option maxHeartbeats 8000000 in
theorem rright_any (v : Value) (G : Gm.Gr) (B : Nat) (w : World) (hg : RdGr w B v G) (hf : Gm.Fit G) (hB : B ≤ w.heap.size) :
    Calls Tryz.prog 19 #[v] w fun e w' => e = .returned (.bool (Gm.right G)) ∧ Below w.heap.size w w' := by
  have HG := hide hg
  obtain ⟨AT, cT, AN, cN, AR, cR, rfl, ⟨hlT, hmT⟩, ⟨hlN, hmN⟩, ⟨hlR, hmR⟩, _, _, ht⟩ := hg
  have HT := hide ht
  have HF := hide hf
  have HS0 := hide (One.start w #[.slice AT G.ts.length cT, .slice AN G.ns.length cN, .slice AR G.rs.length cR, .int .i64 G.st])
  have HTS := hide (fun (x : World) (h : One w #[.slice AT G.ts.length cT, .slice AN G.ns.length cN, .slice AR G.rs.length cR, .int .i64 G.st] x) => rterms_any _ G B x (HG.out.below h.below hB) HF.out (Nat.le_trans hB h.below.size))
  have HNS := hide (fun (x : World) (h : One w #[.slice AT G.ts.length cT, .slice AN G.ns.length cN, .slice AR G.rs.length cR, .int .i64 G.st] x) => rnons_any _ G B x (HG.out.below h.below hB) HF.out (Nat.le_trans hB h.below.size))
  clear ht hf
  cases q1 : Gm.terms G.ts
  · have HX : Hid (Gm.right G = false) := hide (by unfold Gm.right; rw [q1]; rfl)
    rw [HX.out]
    rw [q1] at HTS
    clear q1
    go_enter Tryz.func19, Tryz.ntmps19
    go_wp2_with fail
    refine (HTS.out _ HS0.out).mono ?_; rintro _ w2 ⟨rfl, hb⟩
    have HB2 := hide (HS0.out.on hb)
    clear hb
    go_wp2
    go_ret
    exact ⟨rfl, HB2.out.below⟩
  rw [q1] at HTS
  cases q2 : Gm.nons G
  · have HX : Hid (Gm.right G = false) := hide (by unfold Gm.right; rw [q2]; simp)
    rw [HX.out]
    rw [q2] at HNS
    clear q1 q2
    go_enter Tryz.func19, Tryz.ntmps19
    go_wp2_with fail
    refine (HTS.out _ HS0.out).mono ?_; rintro _ w2 ⟨rfl, hb⟩
    have HB2 := hide (HS0.out.on hb)
    have hz : w.heap.size < w2.heap.size := HB2.out.size
    have d0 := HB2.out.c 0 _ rfl
    have d1 := HB2.out.c 1 _ rfl
    have d2 := HB2.out.c 2 _ rfl
    have d3 := HB2.out.c 3 _ rfl
    clear hb
    go_wp2_with fail
    refine (HNS.out _ HB2.out).mono ?_; rintro _ w3 ⟨rfl, hb⟩
    have HB3 := hide (HB2.out.on hb)
    clear hb
    go_wp2
    go_ret
    exact ⟨rfl, HB3.out.below⟩
  rw [q2] at HNS
  have hlen : (G.rs.length : Int) ≤ 9223372036854775807 := by omega
  by_cases h1 : 1 ≤ G.rs.length ∧ G.rs.length ≤ 40 ∧ 0 ≤ G.st ∧ G.st < G.ns.length
  case neg =>
    have HX : Hid (Gm.right G = false) := hide (by
      unfold Gm.right
      by_cases a1 : 1 ≤ G.rs.length
      · by_cases a2 : G.rs.length ≤ 40
        · by_cases a3 : 0 ≤ G.st
          · have a4 : ¬ G.st < G.ns.length := fun a4 => h1 ⟨a1, a2, a3, a4⟩
            rw [decide_eq_false a4]; simp
          · rw [decide_eq_false a3]; simp
        · rw [decide_eq_false a2]; simp
      · rw [decide_eq_false a1]; simp)
    rw [HX.out]
    clear q1 q2
    by_cases a1 : 1 ≤ G.rs.length
    · by_cases a2 : G.rs.length ≤ 40
      · by_cases a3 : 0 ≤ G.st
        · have a4 : ¬ G.st < G.ns.length := fun a4 => h1 ⟨a1, a2, a3, a4⟩
          have a4 := Int.not_lt.1 a4
          clear h1
          go_enter Tryz.func19, Tryz.ntmps19
          go_wp2_with fail
          refine (HTS.out _ HS0.out).mono ?_; rintro _ w2 ⟨rfl, hb⟩
          have HB2 := hide (HS0.out.on hb)
          have hz : w.heap.size < w2.heap.size := HB2.out.size
          have d0 := HB2.out.c 0 _ rfl
          have d1 := HB2.out.c 1 _ rfl
          have d2 := HB2.out.c 2 _ rfl
          have d3 := HB2.out.c 3 _ rfl
          clear hb
          go_wp2_with fail
          refine (HNS.out _ HB2.out).mono ?_; rintro _ w3 ⟨rfl, hb⟩
          have HB3 := hide (HB2.out.on hb)
          have hz3 : w.heap.size < w3.heap.size := HB3.out.size
          have e1 := HB3.out.c 1 _ rfl
          have e2 := HB3.out.c 2 _ rfl
          have e3 := HB3.out.c 3 _ rfl
          clear hb
          go_wp2
          go_ret
          exact ⟨rfl, HB3.out.below⟩
        · have a3 := Int.not_le.1 a3
          clear h1
          go_enter Tryz.func19, Tryz.ntmps19
          go_wp2_with fail
          refine (HTS.out _ HS0.out).mono ?_; rintro _ w2 ⟨rfl, hb⟩
          have HB2 := hide (HS0.out.on hb)
          have hz : w.heap.size < w2.heap.size := HB2.out.size
          have d0 := HB2.out.c 0 _ rfl
          have d1 := HB2.out.c 1 _ rfl
          have d2 := HB2.out.c 2 _ rfl
          have d3 := HB2.out.c 3 _ rfl
          clear hb
          go_wp2_with fail
          refine (HNS.out _ HB2.out).mono ?_; rintro _ w3 ⟨rfl, hb⟩
          have HB3 := hide (HB2.out.on hb)
          have hz3 : w.heap.size < w3.heap.size := HB3.out.size
          have e1 := HB3.out.c 1 _ rfl
          have e2 := HB3.out.c 2 _ rfl
          have e3 := HB3.out.c 3 _ rfl
          clear hb
          go_wp2
          go_ret
          exact ⟨rfl, HB3.out.below⟩
      · have a2 := Nat.not_le.1 a2
        clear h1
        go_enter Tryz.func19, Tryz.ntmps19
        go_wp2_with fail
        refine (HTS.out _ HS0.out).mono ?_; rintro _ w2 ⟨rfl, hb⟩
        have HB2 := hide (HS0.out.on hb)
        have hz : w.heap.size < w2.heap.size := HB2.out.size
        have d0 := HB2.out.c 0 _ rfl
        have d1 := HB2.out.c 1 _ rfl
        have d2 := HB2.out.c 2 _ rfl
        have d3 := HB2.out.c 3 _ rfl
        clear hb
        go_wp2_with fail
        refine (HNS.out _ HB2.out).mono ?_; rintro _ w3 ⟨rfl, hb⟩
        have HB3 := hide (HB2.out.on hb)
        have hz3 : w.heap.size < w3.heap.size := HB3.out.size
        have e2 := HB3.out.c 2 _ rfl
        clear hb
        go_wp2
        go_ret
        exact ⟨rfl, HB3.out.below⟩
    · have a1 : G.rs.length < 1 := by omega
      clear h1
      go_enter Tryz.func19, Tryz.ntmps19
      go_wp2_with fail
      refine (HTS.out _ HS0.out).mono ?_; rintro _ w2 ⟨rfl, hb⟩
      have HB2 := hide (HS0.out.on hb)
      have hz : w.heap.size < w2.heap.size := HB2.out.size
      have d0 := HB2.out.c 0 _ rfl
      have d1 := HB2.out.c 1 _ rfl
      have d2 := HB2.out.c 2 _ rfl
      have d3 := HB2.out.c 3 _ rfl
      clear hb
      go_wp2_with fail
      refine (HNS.out _ HB2.out).mono ?_; rintro _ w3 ⟨rfl, hb⟩
      have HB3 := hide (HB2.out.on hb)
      have hz3 : w.heap.size < w3.heap.size := HB3.out.size
      have e2 := HB3.out.c 2 _ rfl
      clear hb
      go_wp2
      go_ret
      exact ⟨rfl, HB3.out.below⟩
  have HRR : Hid (Gm.right G = Gm.rules G (G.rs.drop 0) (-1)) := hide (by unfold Gm.right; rw [q1, q2, decide_eq_true h1.1, decide_eq_true h1.2.1, decide_eq_true h1.2.2.1, decide_eq_true h1.2.2.2]; rfl)
  clear q1 q2
  obtain ⟨g1, g2, g3, g4⟩ := h1
  go_enter Tryz.func19, Tryz.ntmps19
  go_wp2_with fail
  refine (HTS.out _ HS0.out).mono ?_; rintro _ w2 ⟨rfl, hb⟩
  have HB2 := hide (HS0.out.on hb)
  have hz : w.heap.size < w2.heap.size := HB2.out.size
  have d0 := HB2.out.c 0 _ rfl
  have d1 := HB2.out.c 1 _ rfl
  have d2 := HB2.out.c 2 _ rfl
  have d3 := HB2.out.c 3 _ rfl
  clear hb
  go_wp2_with fail
  refine (HNS.out _ HB2.out).mono ?_; rintro _ w3 ⟨rfl, hb⟩
  have HB3 := hide (HB2.out.on hb)
  have hz3 : w.heap.size < w3.heap.size := HB3.out.size
  have e1 := HB3.out.c 1 _ rfl
  have e2 := HB3.out.c 2 _ rfl
  have e3 := HB3.out.c 3 _ rfl
  clear hb d0 d1 d2 d3 hz HB2
  go_wp2
  go_loopw [3, 4] (fun vt vi wr => ∃ (k : Nat) (z : Int), k ≤ G.rs.length ∧ vi = .int .i64 k ∧ vt = .int .i64 z ∧ (-1 ≤ z ∧ z ≤ 100 + k) ∧ Hid (Gm.right G = Gm.rules G (G.rs.drop k) z) ∧ One w #[.slice AT G.ts.length cT, .slice AN G.ns.length cN, .slice AR G.rs.length cR, .int .i64 G.st] wr) (fun _ vi _ => G.rs.length - (intOf vi).toNat)
  case atStart => exact ⟨0, -1, Nat.zero_le _, rfl, rfl, by omega, HRR, HB3.out⟩
  case round =>
    clear e1 e2 e3 hz3 HB3
    obtain ⟨k, z, hk, rfl, rfl, hzz, HE, hb⟩ := hrel
    have HB := hide hb
    have hz : w.heap.size < wr.heap.size := hb.size
    have hbw := hb.below
    have q0 := hb.c 0 _ rfl
    have q1 := hb.c 1 _ rfl
    have q2 := hb.c 2 _ rfl
    have q3 := hb.c 3 _ rfl
    clear hb
    by_cases hlt : k < G.rs.length
    · obtain ⟨g, o, rfl, hgb, hc⟩ := HT.out (by omega)
      obtain ⟨k0, ⟨A', c', k1, _, _, hri⟩, k2⟩ := hc k hlt
      have k0 := (hbw.cell (p := ⟨g, o + k * 3, none⟩) (Nat.lt_of_lt_of_le hgb hB)).trans k0
      have k1 := (hbw.cell (p := ⟨g, o + k * 3 + 1, none⟩) (Nat.lt_of_lt_of_le hgb hB)).trans k1
      have k2 := (hbw.cell (p := ⟨g, o + k * 3 + 2, none⟩) (Nat.lt_of_lt_of_le hgb hB)).trans k2
      have hgs : g < wr.heap.size := by omega
      have hft := HF.out.r _ (List.getElem_mem hlt)
      have HRU := hide (fun (y : World) (h : One w #[.slice AT G.ts.length cT, .slice AN G.ns.length cN, .slice (some ⟨g, o, none⟩) G.rs.length cR, .int .i64 G.st] y) => rrule_any _ G B G.rs[k] A' c' y (HG.out.below h.below hB) (hri.keep fun g o hg => h.below.cell (p := ⟨g, o, none⟩) (Nat.lt_of_lt_of_le hg hB)) hft.2.2 (Nat.le_trans hB h.below.size))
      have HN := hide (HE.out.trans (rules_drop hlt z))
      have hil := hft.1
      unfold Gm.In at hil
      clear hc hbw hft hri
      generalize G.rs[k] = x at *
      by_cases c1 : x.l < 0
      · have HX : Hid (Gm.right G = false) := hide (HN.out.trans (if_pos (.inl c1)))
        go_wp2
        go_ret
        exact ⟨ret_bool HX.out.symm, (HB.out.alloc _).below⟩
      have c1' := Int.not_lt.1 c1
      by_cases c2 : z + 1 < x.l
      · have HX : Hid (Gm.right G = false) := hide (HN.out.trans (if_pos (.inr (.inl c2))))
        go_wp2
        go_ret
        exact ⟨ret_bool HX.out.symm, (HB.out.alloc _).below⟩
      have c2' := Int.not_lt.1 c2
      cases c3 : Gm.rule G x
      · have HX : Hid (Gm.right G = false) := hide (HN.out.trans (if_pos (.inr (.inr c3))))
        rw [c3] at HRU
        clear c3 c1 c2
        go_wp2_with fail
        refine (HRU.out _ (HB.out.alloc _)).mono ?_; rintro _ w4 ⟨rfl, hb4⟩
        have HB4 := hide ((HB.out.alloc _).on hb4)
        clear hb4
        go_wp2
        go_ret
        exact ⟨ret_bool HX.out.symm, HB4.out.below⟩
      · have HN2 := hide (HN.out.trans (if_neg (by rw [c3]; simp; omega)))
        rw [c3] at HRU
        clear c3 c1 c2
        by_cases c4 : z < x.l
        · have HX := hide (HN2.out.trans (by rw [if_pos c4]))
          go_wp2_with fail
          refine (HRU.out _ (HB.out.alloc _)).mono ?_; rintro _ w4 ⟨rfl, hb4⟩
          have HB4 := hide ((HB.out.alloc _).on hb4)
          have hbb := (hb4.block wr.heap.size (by simp)).trans (heap_alloc_new wr _)
          have hz4 : wr.heap.size < w4.heap.size := (Array.getElem?_eq_some_iff.1 hbb).1
          have f0 := cell_of_row w4 _ 0 _ _ _ hbb
          clear hb4 hbb
          go_wp2
          go_roundw
          case rel => exact ⟨k + 1, x.l, by omega, by go_num, rfl, by omega, HX, HB4.out⟩
          case measure => simp [intOf]; omega
        · have HX := hide (HN2.out.trans (by rw [if_neg c4]))
          have c4' := Int.not_lt.1 c4
          clear c4
          go_wp2_with fail
          refine (HRU.out _ (HB.out.alloc _)).mono ?_; rintro _ w4 ⟨rfl, hb4⟩
          have HB4 := hide ((HB.out.alloc _).on hb4)
          have hbb := (hb4.block wr.heap.size (by simp)).trans (heap_alloc_new wr _)
          have hz4 : wr.heap.size < w4.heap.size := (Array.getElem?_eq_some_iff.1 hbb).1
          have f0 := cell_of_row w4 _ 0 _ _ _ hbb
          clear hb4 hbb
          go_wp2
          go_roundw
          case rel => exact ⟨k + 1, z, by omega, by go_num, rfl, by omega, HX, HB4.out⟩
          case measure => simp [intOf]; omega
    · obtain rfl : k = G.rs.length := by omega
      have HX := hide (HE.out.trans (rules_end (Nat.le_refl _) z))
      clear hbw
      go_wp2
      go_ret
      exact ⟨ret_bool HX.out.symm, HB.out.below⟩
end Go.Proofs.YtajcegofflmoeaaGreatDoor

namespace Go.Mw
open Go.RowKit Go.Maps

structure Enc (P : Program) (kt : TypeId) (κ : Type) where
  enc : κ → Value
  ok : κ → Prop
  key : ∀ x, ok x → ∃ l, keyOf P kt (enc x) = some l
  inj : ∀ x y, ok x → ok y → enc x = enc y → x = y

section
variable {κ : Type} [DecidableEq κ] {α : Type}
def asc : List (κ × α) → κ → Option α
  | [], _ => none
  | (k, v) :: r, x => if k = x then some v else asc r x
theorem asc_none {l : List (κ × α)} {x : κ} : asc l x = none ↔ ∀ p ∈ l, p.1 ≠ x := by
  induction l with
  | nil => simp [asc]
  | cons p r ih =>
    obtain ⟨k, v⟩ := p
    unfold asc
    by_cases h : k = x
    · rw [if_pos h]; simp [h]
    · rw [if_neg h, ih]; simp [h]
theorem asc_mem {l : List (κ × α)} {x : κ} {v : α} (h : asc l x = some v) : (x, v) ∈ l := by
  induction l with
  | nil => simp [asc] at h
  | cons p r ih =>
    obtain ⟨k, u⟩ := p
    unfold asc at h
    by_cases hk : k = x
    · rw [if_pos hk] at h; injection h with h; subst h hk; simp
    · rw [if_neg hk] at h; exact List.mem_cons_of_mem _ (ih h)
theorem asc_of_mem {l : List (κ × α)} {x : κ} {v : α} (hn : (l.map Prod.fst).Nodup) (h : (x, v) ∈ l) : asc l x = some v := by
  induction l with
  | nil => simp at h
  | cons p r ih =>
    obtain ⟨k, u⟩ := p
    rw [List.map_cons, List.nodup_cons] at hn
    unfold asc
    rcases List.mem_cons.1 h with e | e
    · injection e with e1 e2; subst e1 e2; rw [if_pos rfl]
    · have : k ≠ x := fun q => hn.1 (by rw [q]; exact List.mem_map.2 ⟨(x, v), e, rfl⟩)
      rw [if_neg this]; exact ih hn.2 e
theorem asc_snoc {l : List (κ × α)} {k x : κ} {v : α} (h : asc l k = none) : asc (l ++ [(k, v)]) x = if k = x then some v else asc l x := by
  induction l with
  | nil => simp [asc]
  | cons p r ih =>
    obtain ⟨k', u⟩ := p
    unfold asc at h
    split at h
    · cases h
    · rename_i hk
      rw [List.cons_append]
      show (if k' = x then some u else asc (r ++ [(k, v)]) x) = if k = x then some v else if k' = x then some u else asc r x
      rw [ih h]
      by_cases h1 : k' = x
      · rw [if_pos h1, if_pos h1, if_neg (fun e => hk (h1.trans e.symm))]
      · rw [if_neg h1, if_neg h1]
end

section
variable {P : Program} {kt : TypeId} {κ : Type}
def MapIs (E : Enc P kt κ) (w : World) (b : Nat) (l : List (κ × Value)) : Prop :=
  ∃ es clock, w.heap[b]? = some (.map es clock) ∧ es.toList.map (fun e => (e.key, e.val)) = l.map (fun p => (E.enc p.1, p.2)) ∧ (∀ p ∈ l, E.ok p.1) ∧ (l.map Prod.fst).Nodup
variable {E : Enc P kt κ} {w : World} {b : Nat} {l : List (κ × Value)}
theorem MapIs.made (E : Enc P kt κ) (w : World) : MapIs E (w.alloc (.map #[] 0)) w.heap.size [] :=
  ⟨#[], 0, (MapKept.heap_alloc w _).1, rfl, by simp, by simp⟩
theorem MapIs.lt (h : MapIs E w b l) : b < w.heap.size := by
  obtain ⟨es, clock, hb, _⟩ := h
  exact (Array.getElem?_eq_some_iff.1 hb).1
theorem MapIs.kept {w' : World} {row : Option Nat} (h : MapIs E w b l) (hg : w.grownBy w' row) (hne : some b ≠ row) : MapIs E w' b l := by
  have hlt := h.lt
  obtain ⟨es, clock, hb, r⟩ := h
  exact ⟨es, clock, (hg.block b hlt hne).trans hb, r⟩
theorem MapIs.block {w' : World} (h : MapIs E w b l) (hg : w'.heap[b]? = w.heap[b]?) : MapIs E w' b l := by
  obtain ⟨es, clock, hb, r⟩ := h
  exact ⟨es, clock, hg.trans hb, r⟩
theorem run_len {t e : TypeId} (h : MapIs E w b l) (ht : P.underlying t = some (.map kt e)) (ty : TypeId) : (Builtin.len_ #[t] ty #[.map (some b)]).run P w = .ok (.int .i64 (l.length : Nat)) w := by
  obtain ⟨es, clock, hb, he, _⟩ := h
  have e1 : es.size = l.length := by have := congrArg List.length he; simpa using this
  simp [Builtin.len_, run_underlying ht, MapKept.run_getObj_map hb, goInt, Result.andThen, e1]
variable [DecidableEq κ]
theorem find_in (h : MapIs E w b l) (K : Keyed P kt) {x : κ} (hx : E.ok x) : ∃ es clock, w.heap[b]? = some (.map es clock) ∧ es.toList.map (fun e => (e.key, e.val)) = l.map (fun p => (E.enc p.1, p.2)) ∧
    (((Instr.findKey kt (E.enc x) es.toList).run P w = .ok none w ∧ asc l x = none) ∨ ∃ (j : Nat) (e : MapEntry), (Instr.findKey kt (E.enc x) es.toList).run P w = .ok (some (j, e.val)) w ∧ es.toList[j]? = some e ∧ e.key = E.enc x ∧ asc l x = some e.val ∧ l[j]? = some (x, e.val)) := by
  obtain ⟨es, clock, hb, he, hk, hn⟩ := h
  refine ⟨es, clock, hb, he, ?_⟩
  obtain ⟨lx, hlx⟩ := E.key x hx
  have hkeys : ∀ e ∈ es.toList, ∃ l, keyOf P kt e.key = some l := by
    intro e hm
    have : (e.key, e.val) ∈ es.toList.map (fun e => (e.key, e.val)) := List.mem_map.2 ⟨e, hm, rfl⟩
    rw [he] at this
    obtain ⟨p, hp, e1⟩ := List.mem_map.1 this
    injection e1 with e1 _
    rw [← e1]
    exact E.key p.1 (hk p hp)
  rcases K.find w hlx es.toList hkeys with ⟨h1, h2⟩ | ⟨j, e, h1, h2, h3⟩
  · refine .inl ⟨h1, asc_none.2 fun p hp q => ?_⟩
    have : (E.enc p.1, p.2) ∈ es.toList.map (fun e => (e.key, e.val)) := by rw [he]; exact List.mem_map.2 ⟨p, hp, rfl⟩
    obtain ⟨e, hm, e1⟩ := List.mem_map.1 this
    injection e1 with e1 _
    exact h2 e hm (by rw [e1, q])
  · refine .inr ⟨j, e, h1, h2, h3, ?_⟩
    have hj : (es.toList.map (fun e => (e.key, e.val)))[j]? = some (e.key, e.val) := by rw [List.getElem?_map, h2]; rfl
    rw [he, List.getElem?_map] at hj
    obtain ⟨p, hp, e1⟩ := Option.map_eq_some_iff.1 hj
    injection e1 with e1 e2
    have hpm : p ∈ l := List.mem_of_getElem? hp
    have hpx : p.1 = x := E.inj _ _ (hk p hpm) hx (e1.trans h3)
    have hpe : p = (x, e.val) := by rw [← hpx, ← e2]
    rw [hpe] at hp hpm
    exact ⟨asc_of_mem hn hpm, hp⟩

theorem run_look {t e : TypeId} (h : MapIs E w b l) (K : Keyed P kt) (ht : P.underlying t = some (.map kt e)) {z : Value} (hz : (zeroValue e).run P w = .ok z w) {x : κ} (hx : E.ok x) (c : Bool) :
    (Instr.lookup t (.map (some b)) (E.enc x) c).run P w = .ok (if c then .tuple #[(asc l x).getD z, .bool (asc l x).isSome] else (asc l x).getD z) w := by
  obtain ⟨lx, hlx⟩ := E.key x hx
  obtain ⟨es, clock, hb, _, hf⟩ := find_in h K hx
  rcases hf with ⟨h1, h2⟩ | ⟨j, e0, h1, _, _, h2, _⟩
  · rw [h2]
    simp [Instr.lookup, run_underlying ht, MapKept.run_getObj_map hb, K.check w _ hlx, h1, hz, Result.andThen]
  · rw [h2]
    simp [Instr.lookup, run_underlying ht, MapKept.run_getObj_map hb, K.check w _ hlx, h1, Result.andThen]
theorem run_store {t e : TypeId} (h : MapIs E w b l) (K : Keyed P kt) (ht : P.underlying t = some (.map kt e)) {x : κ} (hx : E.ok x) (v : Value) (hv : asc l x = none ∨ asc l x = some v) :
    ∃ w', (Instr.mapUpdate t (.map (some b)) (E.enc x) v).run P w = .ok () w' ∧ MapIs E w' b (if asc l x = none then l ++ [(x, v)] else l) ∧ w.grownBy w' (some b) := by
  obtain ⟨lx, hlx⟩ := E.key x hx
  have h0 := h
  obtain ⟨es, clock, hb, he, hf⟩ := find_in h K hx
  obtain ⟨es0, clock0, hb0, he0, hk, hn⟩ := h0
  rw [hb] at hb0
  injection hb0 with hb0
  injection hb0 with hb0 hb1
  subst hb0 hb1
  rcases hf with ⟨h1, h2⟩ | ⟨j, e0, h1, h2, h3, h4, h5⟩
  · rw [if_pos h2]
    refine ⟨ChangeMaps.setBlock w b (.map (es.push ⟨E.enc x, v, clock⟩) (clock + 1)), ?_, ⟨_, _, ChangeMaps.heap_setBlock_same hb _, ?_, ?_, ?_⟩, ⟨rfl, rfl, rfl, by simp [ChangeMaps.setBlock], fun i _ hi => ChangeMaps.heap_setBlock_other hb _ (fun e => hi (by rw [e]))⟩⟩
    · simp [Instr.mapUpdate, run_underlying ht, MapKept.run_getObj_map hb, K.check w false hlx, h1, MapKept.run_setObj_map _ hb, Result.andThen, ChangeMaps.setBlock]
    · rw [Array.toList_push, List.map_append, List.map_append, he]; rfl
    · intro p hp
      rcases List.mem_append.1 hp with q | q
      · exact hk p q
      · rw [List.mem_singleton] at q; subst q; exact hx
    · rw [List.map_append, List.nodup_append]
      refine ⟨hn, by simp, fun a ha c hc => ?_⟩
      obtain ⟨p, hp, rfl⟩ := List.mem_map.1 ha
      simp only [List.map_cons, List.map_nil, List.mem_singleton] at hc
      subst hc
      exact asc_none.1 h2 p hp
  · have hve : v = e0.val := by
      rcases hv with q | q
      · rw [h4] at q; cases q
      · rw [h4] at q; injection q with q; exact q.symm
    rw [if_neg (by rw [h4]; simp)]
    have hj : es[j]? = some e0 := by simpa using h2
    have hmod : (es.modify j (fun e => { e with key := E.enc x, val := v })).toList.map (fun e => (e.key, e.val)) = es.toList.map (fun e => (e.key, e.val)) := by
      rw [Array.toList_modify, ChangeMaps.modify_eq_set _ _ _ _ h2, List.map_set]
      have hjl : j < (es.toList.map (fun e => (e.key, e.val))).length := by rw [List.length_map]; exact (List.getElem?_eq_some_iff.1 h2).1
      apply List.ext_getElem?
      intro i
      rw [List.getElem?_set]
      by_cases hij : j = i
      · subst hij
        rw [if_pos rfl, if_pos hjl, List.getElem?_map, h2, ← h3, hve]
        rfl
      · rw [if_neg hij]
    refine ⟨ChangeMaps.setBlock w b (.map (es.modify j (fun e => { e with key := E.enc x, val := v })) clock), ?_, ⟨_, _, ChangeMaps.heap_setBlock_same hb _, hmod.trans he, hk, hn⟩, ⟨rfl, rfl, rfl, by simp [ChangeMaps.setBlock], fun i _ hi => ChangeMaps.heap_setBlock_other hb _ (fun e => hi (by rw [e]))⟩⟩
    simp [Instr.mapUpdate, run_underlying ht, MapKept.run_getObj_map hb, K.check w false hlx, h1, hj, h3, K.stays w hlx, MapKept.run_setObj_map _ hb, Result.andThen, ChangeMaps.setBlock]
end

theorem wpList_store {P : Program} {w : World} {ops : Array Oper} {rest : List Oper} {o : Oper} {a : Act} {Q : Exit → Act → World → Prop}
    (hg : o.guard = none) (m x v : Operand) (t : TypeId) (hop : o.op = Op.mapUpdate t m x v) {mv xv vv : Value} {R : World → Prop} (h : ∃ w', (Instr.mapUpdate t mv xv vv).run P w = .ok () w' ∧ R w') (hm : a.eval m = mv) (hx : a.eval x = xv) (hv : a.eval v = vv)
    (hK : ∀ w', R w' → wpList P ops Q rest (a.put o.dst undef) w') : wpList P ops Q (o :: rest) a w := by
  refine wpList_plain hg fun K' hK' => ?_
  obtain ⟨w', hrun, hR⟩ := h
  unfold Oper.wp
  simp [execOp, hop, hm, hx, hv, hrun, Result.andThen]
  exact hK' _ _ (hK w' hR)
end Go.Mw

namespace Go.Proofs.YtajcegofflmoeaaGreatDoor
end Go.Proofs.YtajcegofflmoeaaGreatDoor
