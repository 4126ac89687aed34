/- Contracts of lex's functions of texts: signs, literals, names, words behind a percent sign; and of the document's own, over this program. -/
import Derived.Test.YtoehbkgdodogkaaGreatLexFn
namespace Go.Proofs.YtoehbkgdodogkaaGreat
set_option maxRecDepth 100000
open Go.RowKit

theorem K.str_list (l : List Int) : (K.str l).toList = K.bytes l := by rw [ByteArray.toList_eq]; simp [K.str]
theorem str_yes {l m : List Int} (h : l = m) : ((K.str l).toList == K.bytes m) = true := by rw [K.str_list, h]; simp
theorem str_no {l m : List Int} (hl : K.Bytes l) (hm : K.Bytes m) (h : ¬ l = m) : ((K.str l).toList == K.bytes m) = false := by
  rw [K.str_list, beq_eq_false_iff_ne]
  exact fun e => h (K.bytes_inj hl hm e)
theorem K.str_size (l : List Int) : (K.str l).size = l.length := by simp [K.str, K.bytes, ByteArray.size]
theorem K.str_get {l : List Int} (hl : K.Bytes l) (i : Nat) (h : i < (K.str l).size) : (((K.str l)[i]'h).toNat : Int) = l.getD i 0 := by
  have h' : i < (K.bytes l).length := by rw [K.str_size] at h; simpa [K.bytes] using h
  rw [← K.bytes_at hl i h']
  congr 2
theorem K.str_app (l m : List Int) : K.str l ++ K.str m = K.str (l ++ m) := by
  unfold K.str
  rw [ByteArray.mk_append_mk]
  simp [K.bytes]
/-- Any text is that of its bytes. -/
theorem K.of (s : ByteArray) : ∃ l, K.Bytes l ∧ s = K.str l := by
  refine ⟨s.data.toList.map fun b => (b.toNat : Int), ?_, ?_⟩
  · intro z hz
    obtain ⟨b, _, rfl⟩ := List.mem_map.1 hz
    have := b.toNat_lt
    omega
  · unfold K.str K.bytes
    rw [List.map_map]
    have : ((fun z : Int => UInt8.ofNat z.toNat) ∘ fun b : UInt8 => (b.toNat : Int)) = id := by
      funext b; simp
    rw [this]; simp


theorem wordKind_any (l : List Int) (hl : K.Bytes l) (w : World) :
    Calls Tryz.prog 98 #[.string (K.str l)] w fun e w' => e = .returned (.tuple #[.int .i64 (T.wkind l), .bool (T.wkind l != 0)]) ∧ w = w' := by
  unfold T.wkind
  by_cases h0 : l = [116, 111, 107, 101, 110]
  · have e0 := str_yes (l := l) (m := [116, 111, 107, 101, 110]) h0
    rw [show K.bytes [116, 111, 107, 101, 110] = [116, 111, 107, 101, 110] from rfl] at e0
    simp only [if_pos h0]
    clear h0 hl
    generalize K.str l = s at *
    go_enter Tryz.func98, Tryz.ntmps98
    go_wp2
    go_ret2
    exact ⟨rfl, rfl⟩
  have e0 := str_no hl (m := [116, 111, 107, 101, 110]) (bytes_lit _ (by decide)) h0
  rw [show K.bytes [116, 111, 107, 101, 110] = [116, 111, 107, 101, 110] from rfl] at e0
  by_cases h1 : l = [108, 101, 102, 116]
  · have e1 := str_yes (l := l) (m := [108, 101, 102, 116]) h1
    rw [show K.bytes [108, 101, 102, 116] = [108, 101, 102, 116] from rfl] at e1
    simp only [if_pos h1, if_neg h0]
    clear h0 h1 hl
    generalize K.str l = s at *
    go_enter Tryz.func98, Tryz.ntmps98
    go_wp2
    go_ret2
    exact ⟨rfl, rfl⟩
  have e1 := str_no hl (m := [108, 101, 102, 116]) (bytes_lit _ (by decide)) h1
  rw [show K.bytes [108, 101, 102, 116] = [108, 101, 102, 116] from rfl] at e1
  by_cases h2 : l = [114, 105, 103, 104, 116]
  · have e2 := str_yes (l := l) (m := [114, 105, 103, 104, 116]) h2
    rw [show K.bytes [114, 105, 103, 104, 116] = [114, 105, 103, 104, 116] from rfl] at e2
    simp only [if_pos h2, if_neg h0, if_neg h1]
    clear h0 h1 h2 hl
    generalize K.str l = s at *
    go_enter Tryz.func98, Tryz.ntmps98
    go_wp2
    go_ret2
    exact ⟨rfl, rfl⟩
  have e2 := str_no hl (m := [114, 105, 103, 104, 116]) (bytes_lit _ (by decide)) h2
  rw [show K.bytes [114, 105, 103, 104, 116] = [114, 105, 103, 104, 116] from rfl] at e2
  by_cases h3 : l = [110, 111, 110, 97, 115, 115, 111, 99]
  · have e3 := str_yes (l := l) (m := [110, 111, 110, 97, 115, 115, 111, 99]) h3
    rw [show K.bytes [110, 111, 110, 97, 115, 115, 111, 99] = [110, 111, 110, 97, 115, 115, 111, 99] from rfl] at e3
    simp only [if_pos h3, if_neg h0, if_neg h1, if_neg h2]
    clear h0 h1 h2 h3 hl
    generalize K.str l = s at *
    go_enter Tryz.func98, Tryz.ntmps98
    go_wp2
    go_ret2
    exact ⟨rfl, rfl⟩
  have e3 := str_no hl (m := [110, 111, 110, 97, 115, 115, 111, 99]) (bytes_lit _ (by decide)) h3
  rw [show K.bytes [110, 111, 110, 97, 115, 115, 111, 99] = [110, 111, 110, 97, 115, 115, 111, 99] from rfl] at e3
  by_cases h4 : l = [115, 116, 97, 114, 116]
  · have e4 := str_yes (l := l) (m := [115, 116, 97, 114, 116]) h4
    rw [show K.bytes [115, 116, 97, 114, 116] = [115, 116, 97, 114, 116] from rfl] at e4
    simp only [if_pos h4, if_neg h0, if_neg h1, if_neg h2, if_neg h3]
    clear h0 h1 h2 h3 h4 hl
    generalize K.str l = s at *
    go_enter Tryz.func98, Tryz.ntmps98
    go_wp2
    go_ret2
    exact ⟨rfl, rfl⟩
  have e4 := str_no hl (m := [115, 116, 97, 114, 116]) (bytes_lit _ (by decide)) h4
  rw [show K.bytes [115, 116, 97, 114, 116] = [115, 116, 97, 114, 116] from rfl] at e4
  by_cases h5 : l = [112, 114, 101, 99]
  · have e5 := str_yes (l := l) (m := [112, 114, 101, 99]) h5
    rw [show K.bytes [112, 114, 101, 99] = [112, 114, 101, 99] from rfl] at e5
    simp only [if_pos h5, if_neg h0, if_neg h1, if_neg h2, if_neg h3, if_neg h4]
    clear h0 h1 h2 h3 h4 h5 hl
    generalize K.str l = s at *
    go_enter Tryz.func98, Tryz.ntmps98
    go_wp2
    go_ret2
    exact ⟨rfl, rfl⟩
  have e5 := str_no hl (m := [112, 114, 101, 99]) (bytes_lit _ (by decide)) h5
  rw [show K.bytes [112, 114, 101, 99] = [112, 114, 101, 99] from rfl] at e5
  simp only [if_neg h0, if_neg h1, if_neg h2, if_neg h3, if_neg h4, if_neg h5]
  clear h0 h1 h2 h3 h4 h5 hl
  generalize K.str l = s at *
  go_enter Tryz.func98, Tryz.ntmps98
  go_wp2
  go_ret2
  exact ⟨rfl, rfl⟩

theorem isSign_any (l : List Int) (hl : K.Bytes l) (hn : l.length ≤ 9223372036854775807) (w : World) :
    Calls Tryz.prog 68 #[.string (K.str l)] w fun e w' => e = .returned (.bool (T.isSign l)) ∧ w = w' := by
  by_cases h0 : l = [92, 110]
  · have e0 := str_yes (l := l) (m := [92, 110]) h0
    rw [show K.bytes [92, 110] = [92, 110] from rfl] at e0
    rw [show T.isSign l = true from by rw [h0]; rfl]
    clear h0 hl hn
    generalize K.str l = s at *
    go_enter Tryz.func68, Tryz.ntmps68
    go_wp2
    go_ret
    exact ⟨rfl, rfl⟩
  have e0 := str_no hl (m := [92, 110]) (bytes_lit _ (by decide)) h0
  rw [show K.bytes [92, 110] = [92, 110] from rfl] at e0
  by_cases h1 : l = [92, 116]
  · have e1 := str_yes (l := l) (m := [92, 116]) h1
    rw [show K.bytes [92, 116] = [92, 116] from rfl] at e1
    rw [show T.isSign l = true from by rw [h1]; rfl]
    clear h0 h1 hl hn
    generalize K.str l = s at *
    go_enter Tryz.func68, Tryz.ntmps68
    go_wp2
    go_ret
    exact ⟨rfl, rfl⟩
  have e1 := str_no hl (m := [92, 116]) (bytes_lit _ (by decide)) h1
  rw [show K.bytes [92, 116] = [92, 116] from rfl] at e1
  by_cases h2 : l = [92, 92]
  · have e2 := str_yes (l := l) (m := [92, 92]) h2
    rw [show K.bytes [92, 92] = [92, 92] from rfl] at e2
    rw [show T.isSign l = true from by rw [h2]; rfl]
    clear h0 h1 h2 hl hn
    generalize K.str l = s at *
    go_enter Tryz.func68, Tryz.ntmps68
    go_wp2
    go_ret
    exact ⟨rfl, rfl⟩
  have e2 := str_no hl (m := [92, 92]) (bytes_lit _ (by decide)) h2
  rw [show K.bytes [92, 92] = [92, 92] from rfl] at e2
  by_cases h3 : l = [92, 39]
  · have e3 := str_yes (l := l) (m := [92, 39]) h3
    rw [show K.bytes [92, 39] = [92, 39] from rfl] at e3
    rw [show T.isSign l = true from by rw [h3]; rfl]
    clear h0 h1 h2 h3 hl hn
    generalize K.str l = s at *
    go_enter Tryz.func68, Tryz.ntmps68
    go_wp2
    go_ret
    exact ⟨rfl, rfl⟩
  have e3 := str_no hl (m := [92, 39]) (bytes_lit _ (by decide)) h3
  rw [show K.bytes [92, 39] = [92, 39] from rfl] at e3
  by_cases h4 : l = [39]
  · have e4 := str_yes (l := l) (m := [39]) h4
    rw [show K.bytes [39] = [39] from rfl] at e4
    rw [show T.isSign l = false from by rw [h4]; rfl]
    clear h0 h1 h2 h3 h4 hl hn
    generalize K.str l = s at *
    go_enter Tryz.func68, Tryz.ntmps68
    go_wp2
    go_ret
    exact ⟨rfl, rfl⟩
  have e4 := str_no hl (m := [39]) (bytes_lit _ (by decide)) h4
  rw [show K.bytes [39] = [39] from rfl] at e4
  by_cases h5 : l = [92]
  · have e5 := str_yes (l := l) (m := [92]) h5
    rw [show K.bytes [92] = [92] from rfl] at e5
    rw [show T.isSign l = false from by rw [h5]; rfl]
    clear h0 h1 h2 h3 h4 h5 hl hn
    generalize K.str l = s at *
    go_enter Tryz.func68, Tryz.ntmps68
    go_wp2
    go_ret
    exact ⟨rfl, rfl⟩
  have e5 := str_no hl (m := [92]) (bytes_lit _ (by decide)) h5
  rw [show K.bytes [92] = [92] from rfl] at e5
  have hsz := K.str_size l
  by_cases hlen : l.length = 1
  · obtain ⟨z, rfl⟩ := List.length_eq_one_iff.1 hlen
    have hz := hl.hd
    have hv : T.isSign [z] = (decide (32 ≤ z) && decide (z ≤ 126)) := by
      have n1 : (z != 39) = true := by simpa using h4
      have n2 : (z != 92) = true := by simpa using h5
      simp [T.isSign, n1, n2]
    rw [hv]
    have hb : ∀ h : 0 < (K.str [z]).size, (((K.str [z])[0]'h).toNat : Int) = z := fun h => K.str_get hl 0 h
    simp only [List.length_cons, List.length_nil] at hsz
    clear h0 h1 h2 h3 h4 h5 hl hn hv hlen
    generalize K.str [z] = s at *
    have hs1 : ((s.size : Int) == 1) = true := by rw [hsz]; rfl
    have hs0 : 0 < s.size := by omega
    have hb0 := hb hs0
    clear hsz hb
    go_enter Tryz.func68, Tryz.ntmps68
    go_wp2
    all_goals go_ret
    all_goals (refine ⟨ret_bool ?_, rfl⟩; first | rfl | (rw [Bool.eq_iff_iff]; simp; done) | (rw [Bool.eq_iff_iff]; simp; omega))
  · have hv : T.isSign l = false := by
      match l with
      | [] => rfl
      | [z] => exact absurd rfl hlen
      | [a, b] =>
        simp only [T.isSign, Bool.or_false, beq_eq_false_iff_ne.2 h0, beq_eq_false_iff_ne.2 h1, beq_eq_false_iff_ne.2 h2, beq_eq_false_iff_ne.2 h3]
      | a :: b :: c :: r => simp [T.isSign]
    rw [hv]
    have hs1 : (((K.str l).size : Int) == 1) = false := by rw [hsz]; exact beq_eq_false_iff_ne.2 (by omega)
    clear h0 h1 h2 h3 h4 h5 hl hn hv hlen hsz
    generalize K.str l = s at *
    go_enter Tryz.func68, Tryz.ntmps68
    go_wp2
    go_ret
    exact ⟨rfl, rfl⟩

theorem K.str_data (l : List Int) : (K.str l).data.toList = K.bytes l := by simp [K.str]
theorem hasP_yes (r : List Int) : Lib.hasPrefix (K.bytes (39 :: r)) [39] = true := by
  simp [Lib.hasPrefix, K.bytes, List.isPrefixOf]
theorem hasP_no {l : List Int} (hl : K.Bytes l) (h : ∀ r, l ≠ 39 :: r) : Lib.hasPrefix (K.bytes l) [39] = false := by
  cases l with
  | nil => rfl
  | cons z r =>
    have hz := hl.hd
    have hn : z ≠ 39 := fun e => h r (by rw [e])
    simp only [Lib.hasPrefix, K.bytes, List.map_cons, List.isPrefixOf, Bool.and_true]
    rw [beq_eq_false_iff_ne]
    intro e
    have := congrArg UInt8.toNat e
    simp at this
    omega
theorem cutP_yes (r : List Int) (w : World) :
    Calls Tryz.prog 66 #[.string (K.str (39 :: r)), .string ⟨#[39]⟩] w fun e w' => e = .returned (.tuple #[.string (K.str r), .bool true]) ∧ w = w' := by
  refine (Tryz.strings_CutPrefix (K.str (39 :: r)) ⟨#[39]⟩ w).mono fun e w' ⟨he, hw⟩ => ⟨he.trans ?_, hw.symm⟩
  rw [K.str_data]
  have h := hasP_yes r
  unfold Lib.trimPrefix
  rw [show (#[39] : Array UInt8).toList = [39] from rfl, h, if_pos rfl]
  rfl
theorem cutP_no (l : List Int) (hl : K.Bytes l) (h : ∀ r, l ≠ 39 :: r) (w : World) :
    Calls Tryz.prog 66 #[.string (K.str l), .string ⟨#[39]⟩] w fun e w' => e = .returned (.tuple #[.string (K.str l), .bool false]) ∧ w = w' := by
  refine (Tryz.strings_CutPrefix (K.str l) ⟨#[39]⟩ w).mono fun e w' ⟨he, hw⟩ => ⟨he.trans ?_, hw.symm⟩
  rw [K.str_data]
  have h := hasP_no hl h
  unfold Lib.trimPrefix
  rw [show (#[39] : Array UInt8).toList = [39] from rfl, h, if_neg (by simp)]
  rfl
theorem hasS_yes (m : List Int) : Lib.hasSuffix (K.bytes (m ++ [39])) [39] = true := by
  unfold Lib.hasSuffix
  rw [List.isSuffixOf_iff_suffix]
  exact ⟨K.bytes m, by simp [K.bytes]⟩
theorem hasS_no {l : List Int} (hl : K.Bytes l) (h : ∀ m, l ≠ m ++ [39]) : Lib.hasSuffix (K.bytes l) [39] = false := by
  rw [Bool.eq_false_iff]
  intro e
  unfold Lib.hasSuffix at e
  rw [List.isSuffixOf_iff_suffix] at e
  obtain ⟨t, ht⟩ := e
  rcases List.eq_nil_or_concat l with rfl | ⟨m, z, rfl⟩
  · simp [K.bytes] at ht
  · have hz := hl z (by simp)
    have hk : K.bytes (m.concat z) = K.bytes m ++ [UInt8.ofNat z.toNat] := by simp [K.bytes]
    rw [hk] at ht
    have := List.append_inj_right' ht rfl
    injection this with this _
    have := congrArg UInt8.toNat this
    simp at this
    exact h m (by simp; omega)
theorem cutS_yes (m : List Int) (hn : m.length < 9223372036854775807) (w : World) :
    Calls Tryz.prog 67 #[.string (K.str (m ++ [39])), .string ⟨#[39]⟩] w fun e w' => e = .returned (.tuple #[.string (K.str m), .bool true]) ∧ w = w' := by
  refine (Tryz.strings_CutSuffix (K.str (m ++ [39])) ⟨#[39]⟩ w (by rw [K.str_size]; simp; omega)).mono fun e w' ⟨he, hw⟩ => ⟨he.trans ?_, hw.symm⟩
  rw [K.str_data]
  have h := hasS_yes m
  unfold Lib.trimSuffix
  rw [show (#[39] : Array UInt8).toList = [39] from rfl, h, if_pos rfl]
  have : (K.bytes (m ++ [39])).take ((K.bytes (m ++ [39])).length - [(39 : UInt8)].length) = K.bytes m := by
    have e : K.bytes (m ++ [39]) = K.bytes m ++ [39] := by simp [K.bytes]
    rw [e]; simp
  rw [this]
  rfl
theorem cutS_no (l : List Int) (hl : K.Bytes l) (hn : l.length ≤ 9223372036854775807) (h : ∀ m, l ≠ m ++ [39]) (w : World) :
    Calls Tryz.prog 67 #[.string (K.str l), .string ⟨#[39]⟩] w fun e w' => e = .returned (.tuple #[.string (K.str l), .bool false]) ∧ w = w' := by
  refine (Tryz.strings_CutSuffix (K.str l) ⟨#[39]⟩ w (by rw [K.str_size]; omega)).mono fun e w' ⟨he, hw⟩ => ⟨he.trans ?_, hw.symm⟩
  rw [K.str_data]
  have h := hasS_no hl h
  unfold Lib.trimSuffix
  rw [show (#[39] : Array UInt8).toList = [39] from rfl, h, if_neg (by simp)]
  rfl

theorem lit_any (l : List Int) (hl : K.Bytes l) (hn : l.length ≤ 9223372036854775807) (w : World) :
    Calls Tryz.prog 48 #[.string (K.str l)] w fun e w' => e = .returned (.bool (T.isLit l)) ∧ w = w' := by
  by_cases hb : ∃ r, l = 39 :: r
  · obtain ⟨r, rfl⟩ := hb
    have P1 := hide (fun w => cutP_yes r w)
    have hr : K.Bytes r := hl.tl
    have hrn : r.length < 9223372036854775807 := by simp at hn; omega
    by_cases he : ∃ m, r = m ++ [39]
    · obtain ⟨m, rfl⟩ := he
      have hmn : m.length < 9223372036854775807 := by simp at hrn; omega
      have P2 := hide (fun w => cutS_yes m hmn w)
      have P3 := hide (fun w => isSign_any m (fun z hz => hr z (by simp [hz])) (by omega) w)
      rw [T.isLit_mid m]
      clear hl hn hr hrn hmn
      generalize K.str (39 :: (m ++ [39])) = s at *
      generalize K.str (m ++ [39]) = s2 at *
      generalize K.str m = s3 at *
      generalize T.isSign m = b at *
      go_enter Tryz.func48, Tryz.ntmps48
      go_wp2_with fail
      refine (P1.out _).mono ?_; rintro _ w' ⟨rfl, rfl⟩
      go_wp2_with fail
      refine (P2.out _).mono ?_; rintro _ w' ⟨rfl, rfl⟩
      go_wp2_with fail
      refine (P3.out _).mono ?_; rintro _ w' ⟨rfl, rfl⟩
      go_wp2
      go_ret
      exact ⟨rfl, rfl⟩
    · have P2 := hide (fun w => cutS_no r hr (by omega) (fun m e => he ⟨m, e⟩) w)
      have hv : T.isLit (39 :: r) = false := by
        rcases hq : T.isLit (39 :: r) with _ | _
        · rfl
        · obtain ⟨m, hm⟩ := T.isLit_bare _ hq
          injection hm with _ hm
          exact absurd ⟨m, hm⟩ he
      rw [hv]
      clear hl hn hr hrn he hv
      generalize K.str (39 :: r) = s at *
      generalize K.str r = s2 at *
      go_enter Tryz.func48, Tryz.ntmps48
      go_wp2_with fail
      refine (P1.out _).mono ?_; rintro _ w' ⟨rfl, rfl⟩
      go_wp2_with fail
      refine (P2.out _).mono ?_; rintro _ w' ⟨rfl, rfl⟩
      go_wp2
      go_ret
      exact ⟨rfl, rfl⟩
  · have P1 := hide (fun w => cutP_no l hl (fun r e => hb ⟨r, e⟩) w)
    have hv : T.isLit l = false := by
      rcases hq : T.isLit l with _ | _
      · rfl
      · obtain ⟨m, hm⟩ := T.isLit_bare _ hq
        exact absurd ⟨_, hm⟩ hb
    have P2 : Hid (∃ (s2 : ByteArray) (b : Bool), ∀ w, Calls Tryz.prog 67 #[.string (K.str l), .string ⟨#[39]⟩] w fun e w' => e = .returned (.tuple #[.string s2, .bool b]) ∧ w = w') := by
      refine hide ?_
      by_cases he : ∃ m, l = m ++ [39]
      · obtain ⟨m, rfl⟩ := he
        exact ⟨K.str m, true, fun w => cutS_yes m (by simp at hn; omega) w⟩
      · exact ⟨K.str l, false, fun w => cutS_no l hl hn (fun m e => he ⟨m, e⟩) w⟩
    obtain ⟨s2, b, P2⟩ := P2.out
    replace P2 := hide P2
    rw [hv]
    clear hl hn hb hv
    generalize K.str l = s at *
    go_enter Tryz.func48, Tryz.ntmps48
    go_wp2_with fail
    refine (P1.out _).mono ?_; rintro _ w' ⟨rfl, rfl⟩
    go_wp2_with fail
    refine (P2.out _).mono ?_; rintro _ w' ⟨rfl, rfl⟩
    go_wp2
    go_ret
    exact ⟨rfl, rfl⟩

/-- The bytes of a text, made anew. -/
def scap (w : World) (l : List Int) : Nat := grownCap w l.length 0 5
def sobj (w : World) (l : List Int) : Obj := .cells (bytesRow (K.str l) (scap w l)) 5 ((bytesRow (K.str l) (scap w l)).size, (bytesRow (K.str l) (scap w l)).size + 1)
theorem str_bytes (w : World) (l : List Int) : (convert 9 33 (.string (K.str l))).run Tryz.prog w = .ok (.slice (some ⟨w.heap.size, 0, none⟩) l.length (scap w l)) (w.drew.alloc (sobj w l)) := by
  have := run_bytes_of_string (P := Tryz.prog) w 9 33 5 (K.str l) Tryz.underlying9 Tryz.underlying33 Tryz.underlying5
  rw [K.str_size] at this
  exact this
theorem str_rd (w : World) (l : List Int) (hl : K.Bytes l) : RdB (w.drew.alloc (sobj w l)) (w.drew.alloc (sobj w l)).heap.size (some ⟨w.heap.size, 0, none⟩) l ∧ Below w.heap.size w (w.drew.alloc (sobj w l)) ∧ l.length ≤ scap w l := by
  refine ⟨fun _ => ⟨w.heap.size, 0, rfl, by simp, fun j hj => ?_⟩, (below_drewN (Below.refl _ _) 1).alloc (Nat.le_refl _) _, grownCap_ge w l.length 0 _⟩
  have := World.cell?_alloc_mark w.drew (bytesRow (K.str l) (scap w l)) 5 ((bytesRow (K.str l) (scap w l)).size, (bytesRow (K.str l) (scap w l)).size + 1) (0 + j)
  rw [show w.drew.heap.size = w.heap.size from rfl] at this
  unfold sobj
  rw [this]
  have hj' : j < (K.bytes l).length := by simpa [K.bytes] using hj
  have h2 : 0 + j < (K.str l).data.size := by simpa [K.str] using hj'
  rw [bytesRow_at (K.str l) _ (0 + j) h2]
  have := K.bytes_at hl j hj'
  rw [← this]
  simp [K.str]

theorem name_any (l : List Int) (hl : K.Bytes l) (w : World) :
    Calls Tryz.prog 33 #[.string (K.str l)] w fun e w' => e = .returned (.bool (T.isName l)) ∧ Below w.heap.size w w' := by
  have hsz := K.str_size l
  by_cases h0 : l = []
  · subst h0
    have e0 : (K.str []).toList = [] := by rw [K.str_list]; rfl
    have hv : T.isName [] = false := by decide
    rw [hv]
    clear hsz hl hv
    generalize K.str [] = s at *
    go_enter Tryz.func33, Tryz.ntmps33
    go_wp2
    go_ret
    exact ⟨rfl, Below.refl _ _⟩
  · have e0 := str_no hl (m := []) (bytes_lit _ (by decide)) h0
    rw [show K.bytes [] = [] from rfl] at e0
    have e2 : ¬ (K.str l).toList = [] := by simpa using e0
    have e1 : (!(K.str l).toList.isEmpty) = true := by
      rw [K.str_list]
      cases l with
      | nil => exact absurd rfl h0
      | cons z r => rfl
    have hpos : l.length ≠ 0 := fun e => h0 (List.eq_nil_of_length_eq_zero e)
    by_cases h20 : l.length ≤ 20
    · have hv : T.isName l = (((T.nsize l : Nat) : Int) == (l.length : Int)) := by
        unfold T.isName
        rw [decide_eq_true h20, decide_eq_true hpos, Bool.true_and, Bool.true_and, Bool.eq_iff_iff]
        simp; omega
      have C1 := fun w => str_bytes w l
      have P1 := hide (fun (w : World) => (nsize_any (some ⟨w.heap.size, 0, none⟩) (scap w l) _ l (w.drew.alloc (sobj w l)) (str_rd w l hl).1 (by omega)))
      have B1 := hide (fun (w : World) => (str_rd w l hl).2.1)
      rw [hv]
      clear hv hpos h0 hl
      generalize T.nsize l = n at *
      have hle : (l.length : Int) ≤ 20 := by omega
      clear h20
      generalize l.length = m at *
      have HZ := hide hsz
      have hs2 : ((K.str l).size : Int) = m := by omega
      clear hsz
      generalize K.str l = s at *
      go_enter Tryz.func33, Tryz.ntmps33
      go_wp2_with (simp only [C1])
      refine (P1.out _).mono ?_; rintro _ w' ⟨rfl, rfl⟩
      go_wp2
      go_ret
      exact ⟨rfl, B1.out w⟩
    · have hv : T.isName l = false := by unfold T.isName; rw [decide_eq_false h20]; rfl
      rw [hv]
      have h21 : ¬ ((K.str l).size : Int) ≤ 20 := by omega
      clear hv hpos h0 hl h20 hsz
      generalize K.str l = s at *
      go_enter Tryz.func33, Tryz.ntmps33
      go_wp2
      go_ret
      exact ⟨rfl, Below.refl _ _⟩
end Go.Proofs.YtoehbkgdodogkaaGreat
