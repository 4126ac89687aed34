/- The contract of lex's piece: what any text begins with; over this program. -/
import Derived.Test.YtoehbkgdodogkaaGreatLexPiece2
namespace Go.Proofs.YtoehbkgdodogkaaGreat
set_option maxRecDepth 100000
open Go.RowKit

set_option maxHeartbeats 2000000 in
theorem piece_any (A : Option Addr) (hA : A ≠ none) (c : Nat) (l : List Int) (w : World) (hr : RdB w w.heap.size A l) (hl : K.Bytes l) (hc : l.length ≤ c) (h0 : 0 < l.length) (hn : l.length ≤ 5000) (hm : ML w) :
    Calls Tryz.prog 58 #[.slice A l.length c] w (Ans (T.piece l) w) := by
  obtain ⟨g, o, hAe, _, hcl⟩ := hr (by omega)
  have hcell : w.cell? ⟨g, o, none⟩ = some (.int .u8 (l.getD 0 0)) := hcl 0 (by omega)
  have HC := hide (comment_any A hA c l w hr hl hc hn hm)
  have HP := hide (percent_any A hA c l w hr hl hc h0 hn hm)
  have HAc := hide (act_any A c _ l w hr hc hn)
  have HLt := hide (literal_any A c _ l w hr hl hc hn)
  have HNm := hide (lname_any A c _ l w hr hn)
  have HLn := hide (line_any A hA c l w hr hl hc hn hm)
  have hlp := T.line_pos l h0 hl
  have hll := T.line_le l
  have HSk := hide (fun (hz : l.getD 0 0 ≠ 10) (w1 : World) (b1 : Below w.heap.size w w1) => skip_any A hA c (T.line l) 1 [62] w1 (line_rd (hr.up b1)) (line_bytes hl) (hlp hz) (by omega) (by omega) (bytes_lit _ (by decide)) (by simp) (hm.up b1))
  rw [show K.str [62] = ⟨#[62]⟩ from rfl] at HSk
  have HV : Hid (T.piece l = if l.getD 0 0 = 32 ∨ l.getD 0 0 = 9 ∨ l.getD 0 0 = 10 ∨ l.getD 0 0 = 13 then (0, 1, 0) else if l.getD 0 0 = 47 then T.comment l else if l.getD 0 0 = 60 then T.skip (T.line l) 1 [62] else if l.getD 0 0 = 123 then T.action l else if l.getD 0 0 = 37 then T.percent l
    else if l.getD 0 0 = 39 then T.literal l else if l.getD 0 0 = 58 then (10, 1, 0) else if l.getD 0 0 = 124 then (11, 1, 0) else if l.getD 0 0 = 59 then (12, 1, 0) else T.name l) := hide rfl
  have HBr := hide (Below.refl w.heap.size w)
  have HZ10 : Hid (60 ≠ (10 : Int)) := hide (by decide)
  clear hr hl hm hcl hlp hll
  subst hAe
  generalize l.getD 0 0 = z at *
  generalize T.comment l = x1 at *
  generalize T.skip (T.line l) 1 [62] = x2 at *
  generalize T.action l = x3 at *
  generalize T.percent l = x4 at *
  generalize T.literal l = x5 at *
  generalize T.name l = x6 at *
  generalize T.piece l = R at *
  by_cases e32 : z = 32
  · subst e32
    obtain rfl : R = (0, 1, 0) := HV.out
    clear HC HP HAc HLt HNm HLn HSk HV
    go_enter Tryz.func58, Tryz.ntmps58
    go_wp2
    go_ret3
    exact ⟨rfl, HBr.out⟩
  have n32 : (z == 32) = false := by simpa using e32
  by_cases e9 : z = 9
  · subst e9
    obtain rfl : R = (0, 1, 0) := HV.out
    clear HC HP HAc HLt HNm HLn HSk HV e32
    go_enter Tryz.func58, Tryz.ntmps58
    go_wp2
    go_ret3
    exact ⟨rfl, HBr.out⟩
  have n9 : (z == 9) = false := by simpa using e9
  by_cases e10 : z = 10
  · subst e10
    obtain rfl : R = (0, 1, 0) := HV.out
    clear HC HP HAc HLt HNm HLn HSk HV e32 e9
    go_enter Tryz.func58, Tryz.ntmps58
    go_wp2
    go_ret3
    exact ⟨rfl, HBr.out⟩
  have n10 : (z == 10) = false := by simpa using e10
  by_cases e13 : z = 13
  · subst e13
    obtain rfl : R = (0, 1, 0) := HV.out
    clear HC HP HAc HLt HNm HLn HSk HV e32 e9 e10
    go_enter Tryz.func58, Tryz.ntmps58
    go_wp2
    go_ret3
    exact ⟨rfl, HBr.out⟩
  have n13 : (z == 13) = false := by simpa using e13
  by_cases e47 : z = 47
  · subst e47
    obtain rfl : R = x1 := HV.out
    clear HP HAc HLt HNm HLn HSk HV e32 e9 e10 e13
    go_enter Tryz.func58, Tryz.ntmps58
    go_wp2_with fail
    refine HC.out.mono ?_; rintro _ w' hans
    obtain ⟨k, n, d, rfl, rfl, hb⟩ := hans.parts
    have HB := hide hb
    clear hb hans
    go_wp2
    go_ret3
    exact ⟨rfl, HB.out⟩
  have n47 : (z == 47) = false := by simpa using e47
  by_cases e60 : z = 60
  · subst e60
    obtain rfl : R = x2 := HV.out
    replace HSk := hide (HSk.out HZ10.out)
    obtain ⟨k, n, d⟩ := R
    simp only [p3v] at HSk
    clear HC HP HAc HLt HNm HV e32 e9 e10 e13 e47
    generalize T.line l = ln at *
    go_enter Tryz.func58, Tryz.ntmps58
    go_wp2_with fail
    refine HLn.out.mono ?_; rintro _ w1 ⟨rfl, hb⟩
    have HB := hide hb
    clear hb
    go_wp2_with fail
    refine (HSk.out _ HB.out).mono ?_; rintro _ w2 ⟨rfl, hb⟩
    have HB2 := hide (HB.out.trans (hb.mono HB.out.size))
    clear hb
    go_wp2
    go_ret3
    exact ⟨rfl, HB2.out⟩
  have n60 : (z == 60) = false := by simpa using e60
  by_cases e123 : z = 123
  · subst e123
    obtain rfl : R = x3 := HV.out
    obtain ⟨k, n, d⟩ := R
    simp only [p3v] at HAc
    clear HC HP HLt HNm HLn HSk HV e32 e9 e10 e13 e47 e60
    go_enter Tryz.func58, Tryz.ntmps58
    go_wp2_with fail
    refine HAc.out.mono ?_; rintro _ w' ⟨rfl, rfl⟩
    go_wp2
    go_ret3
    exact ⟨rfl, HBr.out⟩
  have n123 : (z == 123) = false := by simpa using e123
  by_cases e37 : z = 37
  · subst e37
    obtain rfl : R = x4 := HV.out
    clear HC HAc HLt HNm HLn HSk HV e32 e9 e10 e13 e47 e60 e123
    go_enter Tryz.func58, Tryz.ntmps58
    go_wp2_with fail
    refine HP.out.mono ?_; rintro _ w' hans
    obtain ⟨k, n, d, rfl, rfl, hb⟩ := hans.parts
    have HB := hide hb
    clear hb hans
    go_wp2
    go_ret3
    exact ⟨rfl, HB.out⟩
  have n37 : (z == 37) = false := by simpa using e37
  by_cases e39 : z = 39
  · subst e39
    obtain rfl : R = x5 := HV.out
    obtain ⟨k, n, d⟩ := R
    simp only [p3v] at HLt
    clear HC HP HAc HNm HLn HSk HV e32 e9 e10 e13 e47 e60 e123 e37
    go_enter Tryz.func58, Tryz.ntmps58
    go_wp2_with fail
    refine HLt.out.mono ?_; rintro _ w' ⟨rfl, rfl⟩
    go_wp2
    go_ret3
    exact ⟨rfl, HBr.out⟩
  have n39 : (z == 39) = false := by simpa using e39
  by_cases e58 : z = 58
  · subst e58
    obtain rfl : R = (10, 1, 0) := HV.out
    clear HC HP HAc HLt HNm HLn HSk HV e32 e9 e10 e13 e47 e60 e123 e37 e39
    go_enter Tryz.func58, Tryz.ntmps58
    go_wp2
    go_ret3
    exact ⟨rfl, HBr.out⟩
  have n58 : (z == 58) = false := by simpa using e58
  by_cases e124 : z = 124
  · subst e124
    obtain rfl : R = (11, 1, 0) := HV.out
    clear HC HP HAc HLt HNm HLn HSk HV e32 e9 e10 e13 e47 e60 e123 e37 e39 e58
    go_enter Tryz.func58, Tryz.ntmps58
    go_wp2
    go_ret3
    exact ⟨rfl, HBr.out⟩
  have n124 : (z == 124) = false := by simpa using e124
  by_cases e59 : z = 59
  · subst e59
    obtain rfl : R = (12, 1, 0) := HV.out
    clear HC HP HAc HLt HNm HLn HSk HV e32 e9 e10 e13 e47 e60 e123 e37 e39 e58 e124
    go_enter Tryz.func58, Tryz.ntmps58
    go_wp2
    go_ret3
    exact ⟨rfl, HBr.out⟩
  have n59 : (z == 59) = false := by simpa using e59
  have HE : Hid (R = x6) := hide (by rw [HV.out]; simp only [e32, e9, e10, e13, e47, e60, e123, e37, e39, e58, e124, e59, or_self, if_false])
  obtain rfl := HE.out
  obtain ⟨k, n, d⟩ := R
  simp only [p3v] at HNm
  clear HC HP HAc HLt HLn HSk HV HE e32 e9 e10 e13 e47 e60 e123 e37 e39 e58 e124 e59
  go_enter Tryz.func58, Tryz.ntmps58
  go_wp2_with fail
  refine HNm.out.mono ?_; rintro _ w' ⟨rfl, rfl⟩
  go_wp2
  go_ret3
  exact ⟨rfl, HBr.out⟩
end Go.Proofs.YtoehbkgdodogkaaGreat
