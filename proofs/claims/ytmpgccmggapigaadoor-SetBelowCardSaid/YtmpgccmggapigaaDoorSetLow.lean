/- Contracts of set's Count, Least and Members over this program, and of the library's counts of bits. -/
import Derived.Test.YtmpgccmggapigaaDoorSetFn
import Derived.Lib.LaidTab
import Derived.Lib.BitFns
namespace Go.Proofs.YtmpgccmggapigaaDoor
open Go.RowKit

/-- The table of lowest bits that the library reads. -/
def Tab32 (w : World) : Prop := Lib.TabIs Tryd.prog w "math/bits.deBruijn32tab" .u8 (Lib.deBruijn32tab.map Int.ofNat)
theorem Tab32.below {w w' : World} (h : Tab32 w) (hb : Below w.heap.size w w') : Tab32 w' := by
  unfold Tab32 Lib.TabIs at *
  have hg : Tryd.prog.globalNamed "math/bits.deBruijn32tab" = some 0 := by kernel_rfl
  refine var?_below hb hg ?_ h
  have h' := h
  unfold World.var? at h'
  rw [hg] at h'
  simp only [Option.bind_some] at h'
  rcases Nat.lt_or_ge 0 w.heap.size with hl | hl
  · exact hl
  · rw [Array.getElem?_eq_none hl] at h'; simp at h'
theorem tab32_at (k i : Nat) (hi : i < 32) (h2 : Lib.deBruijn32tab.getD i 0 = k) : ((Lib.deBruijn32tab.map Int.ofNat).map fun z => Value.int .u8 z)[i]? = some (.int .u8 (k : Int)) := by
  have hl : i < Lib.deBruijn32tab.length := hi
  rw [List.getD, List.getElem?_eq_getElem hl] at h2
  simp only [Option.getD_some] at h2
  rw [List.getElem?_map, List.getElem?_map, List.getElem?_eq_getElem hl, h2]
  rfl
theorem Tab32.cell {w : World} (h : Tab32 w) (k i : Nat) (hi : i < 32) (h2 : Lib.deBruijn32tab.getD i 0 = k) : w.cell? ⟨0, i, none⟩ = some (.int .u8 k) := by
  have hg : Tryd.prog.globalNamed "math/bits.deBruijn32tab" = some 0 := by kernel_rfl
  rw [World.var?_cell hg h, List.getElem?_toArray]
  exact tab32_at k i hi h2

theorem tz_key (x a : Nat) (hx : x < 4294967296) (h0 : x ≠ 0) (hlow : x &&& (4294967296 - x) = a) : bits BinOp.and IntKind.u32 (x : Int) (-(x : Int) % 4294967296) * 125613361 % 4294967296 / 134217728 = ((a * 125613361 % 4294967296 / 134217728 : Nat) : Int) := by
  have e1 : -(x : Int) % 4294967296 = ((4294967296 - x : Nat) : Int) := by omega
  rw [e1, u32_and_nat x _ hx (by omega), hlow]
  omega

theorem ctz_core (x k idx : Nat) (w : World) (hx0 : ((x : Int) == 0) = false)
    (key : Hid (bits BinOp.and IntKind.u32 (x : Int) (-(x : Int) % 4294967296) * 125613361 % 4294967296 / 134217728 = (idx : Int)))
    (hi : idx < 32) (hk : k < 32) (hcell : w.cell? ⟨0, idx, none⟩ = some (.int .u8 k)) :
    Calls Tryd.prog 23 #[.int .u32 x] w fun e w' => e = .returned (.int .i64 k) ∧ w' = w := by
  go_enter Tryd.func23, Tryd.ntmps23
  go_wp2_with (simp only [key.out])
  go_ret
  exact ⟨rfl, rfl⟩

theorem ctz_any (x : Nat) (w : World) (hx : x < 4294967296) (h0 : x ≠ 0) (ht : Tab32 w) :
    Calls Tryd.prog 23 #[.int .u32 x] w fun e w' => e = .returned (.int .i64 (Lib.ctz 32 x)) ∧ w' = w := by
  obtain ⟨hlow, hk⟩ := Lib.lowest_bit 32 x h0 hx
  obtain ⟨hi, htab⟩ := Lib.deBruijn32_at _ hk
  exact ctz_core x _ _ w (by simpa using h0) (tz_key x _ hx h0 hlow) hi hk (ht.cell _ _ hi htab)

theorem least_any (x : Nat) (w : World) (hx : x < 4294967296) (ht : Tab32 w) :
    Calls Tryd.prog 16 #[.int .u32 x] w fun e w' => e = .returned (.int .i64 (S.least x)) ∧ w' = w := by
  have hl := hide (S.least_eq x hx)
  by_cases h0 : x = 0
  · subst h0
    have hl' := hide (show S.least 0 = -1 by rw [hl.out]; rfl)
    clear hl
    go_enter Tryd.func16, Tryd.ntmps16
    go_wp2
    go_ret
    rw [hl'.out]; exact ⟨rfl, rfl⟩
  · have hl' := hide (show S.least x = Lib.ctz 32 x by rw [hl.out, if_neg h0])
    have hx0 : ((x : Int) == 0) = false := by simpa using h0
    clear hl
    have HC := hide (ctz_any x w hx h0 ht)
    go_enter Tryd.func16, Tryd.ntmps16
    go_wp2_with fail
    refine HC.out.mono ?_; rintro _ _ ⟨rfl, rfl⟩
    go_wp2
    go_ret
    rw [hl'.out]; exact ⟨rfl, rfl⟩

theorem pop_wrap (x : Nat) (hx : x < 4294967296) : S.count x = Lib.pop8 ((x : Int) / 16777216) + Lib.pop8 ((x : Int) / 65536 % 256) + Lib.pop8 ((x : Int) / 256 % 256) + Lib.pop8 ((x : Int) % 256) := by
  have := S.count_eq x hx
  simpa using this
theorem pop_bd (i : Int) (h0 : 0 ≤ i) (h1 : i < 256) : 0 ≤ Lib.pop8 i ∧ Lib.pop8 i ≤ 8 := by
  have := S.pop_le ⟨i.toNat, by omega⟩
  simp only [Int.toNat_of_nonneg h0] at this
  exact ⟨this.2, this.1⟩
theorem and_255 (y : Nat) (hy : y < 4294967296) : bits .and .u32 (y : Int) 255 = ((y % 256 : Nat) : Int) := by
  have := u32_and_nat y 255 hy (by omega)
  rw [show ((255 : Nat) : Int) = 255 from rfl] at this
  rw [this, show 255 = 2 ^ 8 - 1 from rfl, Nat.and_two_pow_sub_one_eq_mod]

/-- Counts of a byte's bits, read from the library's string. -/
theorem quiet_pop {ops : Array Oper} {C : World → Prop} {Q : Act → Prop} {a : Act} {o : Oper} {rest : List Oper} (t : TypeId) (S : ByteArray) (x : Operand) (k : IntKind) (i : Int)
    (hg : o.guard = none) (hop : o.op = Op.index t (.const (.string S)) x) (hS : S = Lib.pop8tab) (ht : Tryd.prog.underlying t = some .string) (hx : a.eval x = .int k i) (h0 : 0 ≤ i) (h1 : i ≤ 255)
    (h : wpQuiet Tryd.prog ops C Q rest (a.put o.dst (.int .u8 (Lib.pop8 i)))) : wpQuiet Tryd.prog ops C Q (o :: rest) a := by
  subst hS
  refine wpQuiet_step (fun K hK => ?_)
  rw [if_pos (by unfold Region.wanted; rw [hg])]
  refine ⟨.int .u8 (Lib.pop8 i), fun w _ => ?_, hK _ h⟩
  unfold Oper.quietAt
  have hc : a.eval (.const (.string Lib.pop8tab)) = .string Lib.pop8tab := rfl
  simp [execOp, hop, hc, hx, Lib.run_index_pop8tab w t k i ht h0 h1, Result.andThen, Oper.quietUpon]
theorem ones_any (x : Nat) (w : World) (hx : x < 4294967296) :
    Calls Tryd.prog 22 #[.int .u32 x] w fun e w' => e = .returned (.int .i64 (S.count x)) ∧ ∃ n, w' = w.drewN n := by
  have hs := hide (pop_wrap x hx)
  have b1 := pop_bd ((x : Int) / 16777216) (by omega) (by omega)
  have b2 := pop_bd ((x : Int) / 65536 % 256) (by omega) (by omega)
  have b3 := pop_bd ((x : Int) / 256 % 256) (by omega) (by omega)
  have b4 := pop_bd ((x : Int) % 256) (by omega) (by omega)
  have a0 : bits .and .u32 (x : Int) 255 = (x : Int) % 256 := by rw [and_255 x hx]; omega
  have a1 : bits .and .u32 ((x : Int) / 256) 255 = (x : Int) / 256 % 256 := by have := and_255 (x / 256) (by omega); rw [show ((x / 256 : Nat) : Int) = (x : Int) / 256 by omega] at this; rw [this]; omega
  have a2 : bits .and .u32 ((x : Int) / 65536) 255 = (x : Int) / 65536 % 256 := by have := and_255 (x / 65536) (by omega); rw [show ((x / 65536 : Nat) : Int) = (x : Int) / 65536 by omega] at this; rw [this]; omega
  go_enter Tryd.func22, Tryd.ntmps22
  go_wp2
  refine wp_region_quiet_lit (by kernel_rfl) (by kernel_rfl) ?_
  quiet_step (fail)
  quiet_step (fail)
  refine quiet_pop _ _ _ _ _ rfl rfl (by decide +kernel) (by kernel_rfl) rfl (by omega) (by omega) ?_
  quiet_step (fail)
  quiet_step (fail)
  quiet_step (fail)
  refine quiet_pop _ _ _ _ _ rfl rfl (by decide +kernel) (by kernel_rfl) rfl (by omega) (by omega) ?_
  quiet_step (fail)
  quiet_step (fail)
  quiet_step (fail)
  quiet_step (fail)
  refine quiet_pop _ _ _ _ _ rfl rfl (by decide +kernel) (by kernel_rfl) rfl (by omega) (by omega) ?_
  quiet_step (fail)
  quiet_step (fail)
  quiet_step (fail)
  refine quiet_pop _ _ _ _ _ rfl rfl (by decide +kernel) (by kernel_rfl) rfl (by omega) (by omega) ?_
  quiet_step (fail)
  quiet_step (fail)
  quiet_step (fail)
  refine wpQuiet_nil ?_
  rintro w' ⟨nq, rfl⟩
  go_wp2
  go_ret
  refine ⟨ret_int ?_, _, rfl⟩
  rw [hs.out]
  simp [IntKind.wrap, IntKind.signed, IntKind.bits]
  omega

theorem count_any (x : Nat) (w : World) (hx : x < 4294967296) :
    Calls Tryd.prog 14 #[.int .u32 x] w fun e w' => e = .returned (.int .i64 (S.count x)) ∧ ∃ n, w' = w.drewN n := by
  have H := hide (ones_any x w hx)
  go_enter Tryd.func14, Tryd.ntmps14
  go_wp2_with fail
  refine H.out.mono ?_; rintro _ _ ⟨rfl, n, rfl⟩
  go_wp2
  go_ret
  exact ⟨rfl, _, rfl⟩

set_option maxHeartbeats 400000 in
theorem members_any (s : Nat) (w : World) (hs : s < 4294967296) (ht : Tab32 w) :
    Calls Tryd.prog 12 #[.int .u32 s] w (GotI (S.mem s) w) := by
  have HC := hide (fun w : World => count_any s w hs)
  have hcn := hide (show S.count s = ((S.mem s).length : Int) from rfl)
  have hml := S.mem_len s
  have HT := hide ht
  clear ht
  go_enter Tryd.func12, Tryd.ntmps12
  go_wp2_with fail
  refine (HC.out w).mono ?_; rintro _ _ ⟨rfl, n, rfl⟩
  go_wp2_with (at_make; refine mk0I_arm rfl _ _ _ rfl Tryd.underlying23 w.heap.size (S.mem s).length _ rfl rfl hcn.out (by omega) (Nat.le_refl _) ?_; intro w1 v1 ho1 hb1)
  have HB1 := hide (show Below w.heap.size w w1 from ⟨hb1.os, hb1.tape, hb1.output, hb1.size, hb1.block⟩)
  have HO1 := hide ho1
  clear ho1 hb1
  go_loopw [0, 3] (fun vs vl wr => ∃ (x : Nat) (ls : List Int), vs = .int .u32 x ∧ x < 4294967296 ∧ ls ++ S.mem x = S.mem s ∧ OwnI wr w.heap.size vl ls ∧ Below w.heap.size w wr) (fun vs _ _ => (intOf vs).toNat)
  case atStart => exact ⟨s, [], rfl, hs, rfl, HO1.out, HB1.out⟩
  case round =>
    obtain ⟨x, ls, rfl, hx, hl, ho, hb⟩ := hrel
    have hlen : ls.length ≤ 32 := by rw [← hl, List.length_append] at hml; omega
    have HL := hide hl
    have HO := hide ho
    have HB := hide hb
    have HLN := hide hlen
    clear hl ho hb hlen hml
    by_cases h0 : x = 0
    · subst h0
      go_wp2
      go_ret
      refine ⟨_, rfl, ?_, HB.out⟩
      have := HL.out
      rw [S.mem_zero, List.append_nil] at this
      rw [← this]; exact HO.out
    · have hx0 : ((x : Int) == 0) = false := by simpa using h0
      have hx1 : 1 ≤ (x : Int) := by omega
      have hst := hide (S.mem_step h0 hx)
      have hle := hide (S.least_eq x hx)
      have CL := hide (least_any x _ hx (HT.out.below (HB.out.mono (Nat.le_refl _))))
      have he := hide (show bits .and .u32 (x : Int) ((x : Int) - 1) = ((x &&& (x - 1) : Nat) : Int) by
        rw [show (x : Int) - 1 = ((x - 1 : Nat) : Int) by omega]; exact u32_and_nat x (x - 1) hx (by omega))
      go_wp2_with fail
      refine CL.out.mono ?_; rintro _ wr ⟨rfl, rfl⟩
      go_wp2_with (at_builtin; refine apI_arm rfl (.tmp 13) (.tmp 16) _ rfl Tryd.underlying23 w.heap.size _ ls rfl (HO.out.alloc _) wr.heap.size 1 (S.least x) rfl (World.cell?_alloc_new _ _ _ 0) (by have := HLN.out; omega) (by have := HB.out.size; simp; omega) ?_; intro v' w2 ho2 hg2)
      go_roundw
      case rel =>
        refine ⟨x &&& (x - 1), ls ++ [S.least x], by rw [he.out], S.and_lt hx, ?_, ho2, ?_⟩
        · rw [List.append_assoc, hle.out, if_neg h0, List.singleton_append, ← hst.out.1]; exact HL.out
        · exact below_grownI (HB.out.alloc (by have := HB.out.size; omega) _) (HO.out.alloc _) hg2 (by have := HB.out.size; simp; omega)
      case measure =>
        have : x &&& (x - 1) ≤ x - 1 := Nat.and_le_right
        rw [he.out]; simp [intOf]; omega
end Go.Proofs.YtmpgccmggapigaaDoor
