/- The walk of NatTexts over this program: it answers true, for every list of limbs and every text, and writes nothing that was there. -/
import Derived.Test.YthnfdbgejmkaaaaDoorKit
namespace Go.Proofs.YthnfdbgejmkaaaaDoor
open Go.RowKit

set_option maxHeartbeats 4000000 in
set_option maxRecDepth 100000 in
theorem texts_walk (A : Option Addr) (c : Nat) (xs : List Int) (s : ByteArray) (w : World) (hr : Rd w w.heap.size A xs) (hx : M.Lim xs) (hc : xs.length ≤ c) (hcm : c ≤ 9223372036854775807) (hs : s.size ≤ 9223372036854775807) (htab : Tab w) :
    Calls Tryd.prog 6 #[.slice A xs.length c, .string s] w fun e w' => e = .returned (.bool true) ∧ Below w.heap.size w w' := by
  have AL := hide (alive_any w htab)
  have HR := hide hr
  have HX := hide hx
  have HT := hide htab
  clear hr hx htab
  by_cases g1 : xs.length ≤ 40
  · by_cases g2 : s.size ≤ 400
    · have PN := hide (fun W : World => nparse_any s W hs)
      have PR := hide (fun W : World => rparse_any s W hs)
      have TN := hide (fun (W : World) (h1 : Rd W W.heap.size A xs) (ht : Tab W) => ntext_any A c W.heap.size xs W h1 HX.out hc hcm (Nat.le_refl _) ht)
      have TR := hide (fun (W : World) (h1 : Rd W W.heap.size A xs) => rtext_any A c W.heap.size xs W h1 HX.out hc hcm (Nat.le_refl _))
      have sl : (parseS s.data.toList).1.length ≤ 32 := parseS_len _
      generalize parseS s.data.toList = S at *
      obtain ⟨T, hT⟩ : ∃ T : ByteArray, T = ⟨(textS xs).toArray⟩ := ⟨_, rfl⟩
      have HTT := hide hT
      obtain ⟨Sl, Se⟩ := S
      clear hT
      go_enter Tryd.func6, Tryd.ntmps6
      go_wp2_with fail
      refine AL.out.mono ?_
      rintro e w1 ⟨rfl, b1⟩
      go_wp2_with fail
      refine (PN.out w1).mono ?_
      rintro e w2 ⟨Ao, co, rfl, o1, o2, o3, b2⟩
      have e2 := b1.trans (b2.mono b1.size)
      go_wp2_with fail
      refine (PR.out w2).mono ?_
      rintro e w3 ⟨Am, cm', rfl, m1, m2, m3, b3⟩
      have e3 := e2.trans (b3.mono e2.size)
      go_wp2_with fail
      refine (TN.out w3 (HR.out.on e3) (HT.out.below e3)).mono ?_
      rintro e w4 ⟨rfl, b4⟩
      have e4 := e3.trans (b4.mono e3.size)
      rw [← HTT.out]
      go_wp2_with fail
      refine (TR.out w4 (HR.out.on e4)).mono ?_
      rintro e w5 ⟨rfl, b5⟩
      have e5 := e4.trans (b5.mono e4.size)
      rw [← HTT.out]
      have htt : (T.toList == T.toList) = true := by simp
      go_wp2_with fail
      refine (k_same w5 Ao Am co cm' Sl (((o3.on b3).on b4).on b5) ((m3.on b4).on b5) (by omega)).mono ?_
      rintro e w8 ⟨rfl, b8⟩
      have e8 := e5.trans (b8.mono e5.size)
      go_wp2
      go_ret
      exact ⟨rfl, e8⟩
    · go_enter Tryd.func6, Tryd.ntmps6
      go_wp2_with fail
      refine AL.out.mono ?_
      rintro e w1 ⟨rfl, b1⟩
      go_wp2
      go_ret
      exact ⟨rfl, b1⟩
  · go_enter Tryd.func6, Tryd.ntmps6
    go_wp2_with fail
    refine AL.out.mono ?_
    rintro e w1 ⟨rfl, b1⟩
    go_wp2
    go_ret
    exact ⟨rfl, b1⟩
end Go.Proofs.YthnfdbgejmkaaaaDoor
