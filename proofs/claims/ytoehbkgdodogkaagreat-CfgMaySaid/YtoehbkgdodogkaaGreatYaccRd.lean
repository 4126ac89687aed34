/- Contracts of the reader's is, take, ref, refs, over this program. -/
import Derived.Test.YtoehbkgdodogkaaGreatYaccW
import Derived.Test.YtoehbkgdodogkaaGreatLexToks
namespace Go.Proofs.YtoehbkgdodogkaaGreat
set_option maxRecDepth 100000
open Go.RowKit

theorem Rdr.cell0 {L : List Int} {B R px py : Nat} {w : World} {ts : List Tok} (h : Rdr L B R px py w ts) : ∃ A c, w.cell? ⟨R, 0, none⟩ = some (.slice A ts.length c) ∧ w.cell? ⟨R, 1, none⟩ = some (.complex .f64 px py) ∧ w.frozen? ⟨R, 0, none⟩ = false ∧ ts.length ≤ c ∧ RdT L w B A ts ∧
    ∀ A' c' ts', ts'.length ≤ c' → ts'.length ≤ 4000 → RdT L w B A' ts' → Rdr L B R px py (w.setCell ⟨R, 0, none⟩ (.slice A' ts'.length c')) ts' := by
  obtain ⟨A, c, hh, h1, h2, h3, h4⟩ := h
  refine ⟨A, c, by rw [cell_of_row w R 0 _ _ _ hh]; rfl, by rw [cell_of_row w R 1 _ _ _ hh]; rfl, frozen_of_row w R 0 _ _ hh, h1, h3, fun A' c' ts' k1 k2 k3 => ⟨A', c', ?_, k1, k2, ?_, h4⟩⟩
  · rw [heap_setCell_same w R 0 _ _ _ hh]; rfl
  · exact k3.keep fun g o hg => World.cell?_of_block (Below.heap_setCell w ⟨R, 0, none⟩ _ g (by simp only; omega))

set_option maxHeartbeats 1000000 in
theorem is_any (L : List Int) (B R px py : Nat) (ts : List Tok) (ks : List Int) (KA : Option Addr) (kc B' : Nat) (w : World) (hr : Rdr L B R px py w ts) (hk : RdI w B' KA ks) (hn : ks.length ≤ 1000) :
    Calls Tryz.prog 81 #[.pointer (some ⟨R, 0, none⟩), .slice KA ks.length kc] w fun e w' => e = .returned (.bool (Y.is ks ts)) ∧ w = w' := by
  obtain ⟨A, c, h0, _, _, hc, ht, _⟩ := hr.cell0
  rcases ts with _ | ⟨t, r⟩
  · clear hr ht hk
    go_enter Tryz.func81, Tryz.ntmps81
    go_wp2
    go_ret
    exact ⟨rfl, rfl⟩
  · obtain ⟨g, o, rfl, _, hcl⟩ := ht (by simp)
    have hcell : w.cell? ⟨g, o, none⟩ = some (.int .i64 t.k) := hcl 0 0 _ (by simp) rfl
    have HP := hide (contains_int KA kc B' ks t.k w hk hn)
    have hl : 0 < ((t :: r).length : Int) := by simp
    have HY : Hid (Y.is ks (t :: r) = ks.contains t.k) := hide rfl
    clear hr ht hk hcl
    generalize (t :: r).length = n at *
    generalize Y.is ks (t :: r) = yb at *
    generalize t.k = z at *
    generalize ks.contains z = kb at *
    go_enter Tryz.func81, Tryz.ntmps81
    go_wp2_with fail
    refine HP.out.mono ?_; rintro _ w' ⟨rfl, rfl⟩
    go_wp2
    go_ret
    exact ⟨ret_bool HY.out.symm, rfl⟩

def tokV (L : List Int) (t : Tok) : Value := .agg #[.int .i64 t.k, .string (K.str t.t), .complex .f64 (Fl.fl (Pl.pos (L.take t.o)).1) (Fl.fl (Pl.pos (L.take t.o)).2)]
def refV (L : List Int) (t : Tok) : Value := .agg #[.string (K.str t.t), .complex .f64 (Fl.fl (Pl.pos (L.take t.o)).1) (Fl.fl (Pl.pos (L.take t.o)).2)]

theorem slice_next (w : World) (A : Option Addr) (c n : Nat) (hk : 1 ≤ n) : (Instr.sliceAt 67 (.slice A n c) (some (.int .i64 1)) none none).run Tryz.prog w = .ok (.slice (nextA A c) (n - 1) (c - 1)) w := by
  rw [run_sliceAt_slice _ _ _ _ _ _ (by kernel_rfl), run_slice_l _ _ _ _ _ (by kernel_rfl) .i64 (1 : Int) (by omega) (by omega)]
  have hs : (sizeOf (Tryz.prog.elem 67)).run Tryz.prog w = .ok 3 w := by kernel_rfl
  rw [hs]
  simp [Result.andThen, sliced, nextA]

set_option maxHeartbeats 2000000 in
theorem take_any (L : List Int) (B R px py : Nat) (ts : List Tok) (ks : List Int) (KA : Option Addr) (kc B' : Nat) (w : World) (hr : Rdr L B R px py w ts) (hk : RdI w B' KA ks) (hB : B' ≤ w.heap.size) (hn : ks.length ≤ 1000) :
    Calls Tryz.prog 83 #[.pointer (some ⟨R, 0, none⟩), .slice KA ks.length kc] w (Does L B R px py w (fun t v _ => v = tokV L t) (Y.take ks ts)) := by
  have HR := hide (fun (w1 : World) (h1 : Below w.heap.size w w1) => hr.grown (row := .none) (only_below h1 .none) (fun _ e => by cases e))
  have HK := hide (fun (w1 : World) (h1 : Below w.heap.size w w1) => hk.below h1 hB)
  have HB0 := hide (fun o => ((Below.refl w.heap.size w).alloc (Nat.le_refl _) o))
  have hlt := hr.lt
  rcases ts with _ | ⟨t, r⟩
  · obtain ⟨A, c, h0, h1, _, hc, ht, _⟩ := hr.cell0
    clear hr ht hk hc
    go_enter Tryz.func83, Tryz.ntmps83
    go_wp2
    exact ⟨rfl, only_below (HB0.out _) _, rfl⟩
  · obtain ⟨A, c, h0, h1, hf, hc, ht, hset⟩ := hr.cell0
    obtain ⟨g, o, hA, hgB, hcl⟩ := ht (by simp)
    have hc0 : w.cell? ⟨g, o, none⟩ = some (.int .i64 t.k) := hcl 0 0 _ (by simp) rfl
    have hc1 : w.cell? ⟨g, o + 1, none⟩ = some (.string (K.str t.t)) := hcl 0 1 _ (by simp) rfl
    have hc2 : w.cell? ⟨g, o + 2, none⟩ = some (.complex .f64 (Fl.fl (Pl.pos (L.take t.o)).1) (Fl.fl (Pl.pos (L.take t.o)).2)) := hcl 0 2 _ (by simp) rfl
    have hglt : g < w.heap.size := by obtain ⟨_, _, _, _, _, _, hBR⟩ := hr; omega
    have HIS := hide (fun (w1 : World) (h1 : Below w.heap.size w w1) => is_any L B R px py (t :: r) ks KA kc B' w1 (HR.out w1 h1) (HK.out w1 h1) hn)
    have HT := hide (ht.tail hc)
    have HSET := hide hset
    have S1 := fun w => slice_next w A c (t :: r).length (by simp)
    have SC := fun a w m X Y => show (store a (.complex .f64 X Y) m).run Tryz.prog w = stored Tryz.prog w a (.complex .f64 X Y) m from run_store _ w a _ m rfl
    have hl0 : (((t :: r).length : Int) == 0) = false := by simp; omega
    have hl1 : 0 < (t :: r).length := by simp
    have HN : Hid ((t :: r).length = r.length + 1 ∧ r.length + 1 ≤ c ∧ r.length + 1 ≤ 4000) := hide ⟨rfl, hc, by obtain ⟨_, _, _, _, h4, _, _⟩ := hr; simpa using h4⟩
    unfold tokV
    have HY : Hid (Y.take ks (t :: r) = if Y.is ks (t :: r) then .ok t r else .bad (some t)) := hide rfl
    clear hr ht hk hcl hset
    subst hA
    generalize (t :: r).length = n at *
    generalize Y.is ks (t :: r) = yb at *
    generalize Y.take ks (t :: r) = res at *
    generalize hz : t.k = z at *
    generalize hs : K.str t.t = st at *
    have HZS := hide (And.intro hz hs)
    clear hz hs
    generalize hX : Fl.fl (Pl.pos (L.take t.o)).1 = X at *
    generalize hY : Fl.fl (Pl.pos (L.take t.o)).2 = Y' at *
    have HXY := hide (And.intro hX hY)
    clear hX hY
    go_enter Tryz.func83, Tryz.ntmps83
    go_wp2_with fail
    refine (HIS.out _ (((Below.refl w.heap.size w).alloc (Nat.le_refl _) _).alloc (by simp) _)).mono ?_; rintro _ w2 ⟨rfl, rfl⟩
    cases yb
    · go_wp2
      obtain rfl : res = .bad (some t) := by rw [HY.out]; rfl
      refine ⟨rfl, only_alloc (only_alloc (World.grownBy.refl _ _) _) _, ?_⟩
      rw [← HXY.out.1, ← HXY.out.2]
      rfl
    · go_wp2
      obtain rfl : res = .ok t r := by rw [HY.out]; rfl
      refine bodyPost_ret (v := .agg #[.int .i64 z, .string st, .complex .f64 X Y']) (by simp [results, Tryz.results83, go_sem]) rfl ⟨only_alloc (only_alloc (only_set (World.grownBy.refl _ _) _ _) _) _, _, rfl, ?_, ?_⟩
      · have hk := HSET.out (nextA (some ⟨g, o, none⟩) c) (c - 1) r (by have := HN.out; omega) (by have := HN.out; omega) HT.out
        rw [show n - 1 = r.length by have := HN.out; omega]
        exact (hk.alloc _).alloc _
      · rw [← HXY.out.1, ← HXY.out.2, ← HZS.out.1, ← HZS.out.2]

set_option maxHeartbeats 2000000 in
theorem ref_any (L : List Int) (B R px py : Nat) (ts : List Tok) (ks : List Int) (KA : Option Addr) (kc B' : Nat) (w : World) (hr : Rdr L B R px py w ts) (hk : RdI w B' KA ks) (hB : B' ≤ w.heap.size) (hn : ks.length ≤ 1000) :
    Calls Tryz.prog 101 #[.pointer (some ⟨R, 0, none⟩), .slice KA ks.length kc] w (Does L B R px py w (fun t v _ => v = refV L t) (Y.take ks ts)) := by
  have HT := hide (fun o => take_any L B R px py ts ks KA kc B' (w.alloc o) (hr.alloc o) (hk.below ((Below.refl w.heap.size w).alloc (Nat.le_refl _) o) hB) (by simp; omega) hn)
  have HG := hide (fun o => only_alloc (World.grownBy.refl w (some R)) o)
  have hRlt := hr.lt
  clear hr hk
  rcases hres : Y.take ks ts with ⟨t, r⟩ | p
  · rw [hres] at HT
    unfold refV
    unfold tokV at HT
    have SC := fun a w m X Y => show (store a (.complex .f64 X Y) m).run Tryz.prog w = stored Tryz.prog w a (.complex .f64 X Y) m from run_store _ w a _ m rfl
    clear hres
    go_enter Tryz.func101, Tryz.ntmps101
    go_wp2_with fail
    refine (HT.out _).mono ?_; rintro _ w2 ⟨hg, v, rfl, hrd, rfl⟩
    have HG2 := hide ((HG.out _).trans hg)
    have HRD := hide hrd
    have hbk := block_kept hg hRlt
    have hsz := size_kept hg
    have r0 := cell_of_row w2 _ 0 _ _ _ hbk
    have r1 := cell_of_row w2 _ 1 _ _ _ hbk
    have f0 := frozen_of_row w2 _ 0 _ _ hbk
    have f1 := frozen_of_row w2 _ 1 _ _ hbk
    clear hg hrd hbk
    go_wp2
    refine bodyPost_ret (v := .agg #[.string (K.str t.t), .complex .f64 (Fl.fl (Pl.pos (L.take t.o)).1) (Fl.fl (Pl.pos (L.take t.o)).2)]) (by simp [results, Tryz.results101, go_sem, r0, r1, hsz]) rfl ⟨only_alloc (only_far (only_far HG2.out _ _ _ (Nat.le_refl _)) _ _ _ (Nat.le_refl _)) _, _, rfl, ((HRD.out.far _ _ _ hRlt).far _ _ _ hRlt).alloc _, rfl⟩
  · rw [hres] at HT
    clear hres
    go_enter Tryz.func101, Tryz.ntmps101
    go_wp2_with fail
    refine (HT.out _).mono ?_; rintro _ w2 ⟨hg, rfl⟩
    exact ⟨rfl, (HG.out _).trans hg, rfl⟩

/-- Ints that a call is handed. -/
theorem litI (w : World) (ks : List Int) : RdI (w.alloc (cellsI ks)) (w.heap.size + 1) (some ⟨w.heap.size, 0, none⟩) ks := by
  have h := (litI1 w ks).1
  rwa [show (w.alloc (cellsI ks)).heap.size = w.heap.size + 1 by simp] at h
/-- is, take, ref with a list that is made for the call. -/
theorem is_lit (L : List Int) (B R px py : Nat) (ts : List Tok) (ks : List Int) (w : World) (hr : Rdr L B R px py w ts) (hn : ks.length ≤ 1000) :
    Calls Tryz.prog 81 #[.pointer (some ⟨R, 0, none⟩), .slice (some ⟨w.heap.size, 0, none⟩) ks.length ks.length] (w.alloc (cellsI ks)) fun e w' => e = .returned (.bool (Y.is ks ts)) ∧ w.grownBy w' .none :=
  (is_any L B R px py ts ks _ _ (w.heap.size + 1) _ (hr.alloc _) (litI w ks) hn).mono fun _ _ h => ⟨h.1, h.2 ▸ only_alloc (World.grownBy.refl _ _) _⟩
theorem Does.since {α : Type} {L : List Int} {B R px py : Nat} {w w1 : World} {V : α → Value → World → Prop} {res : Y.Res α} {e : Ending} {w' : World} (h : Does L B R px py w1 V res e w') (hg : w.grownBy w1 (some R)) : Does L B R px py w V res e w' := ⟨hg.trans h.1, h.2⟩
theorem take_lit (L : List Int) (B R px py : Nat) (ts : List Tok) (ks : List Int) (w : World) (hr : Rdr L B R px py w ts) (hn : ks.length ≤ 1000) :
    Calls Tryz.prog 83 #[.pointer (some ⟨R, 0, none⟩), .slice (some ⟨w.heap.size, 0, none⟩) ks.length ks.length] (w.alloc (cellsI ks)) (Does L B R px py w (fun t v _ => v = tokV L t) (Y.take ks ts)) :=
  (take_any L B R px py ts ks _ _ (w.heap.size + 1) _ (hr.alloc _) (litI w ks) (by simp) hn).mono fun _ _ h => h.since (only_alloc (World.grownBy.refl _ _) _)
theorem ref_lit (L : List Int) (B R px py : Nat) (ts : List Tok) (ks : List Int) (w : World) (hr : Rdr L B R px py w ts) (hn : ks.length ≤ 1000) :
    Calls Tryz.prog 101 #[.pointer (some ⟨R, 0, none⟩), .slice (some ⟨w.heap.size, 0, none⟩) ks.length ks.length] (w.alloc (cellsI ks)) (Does L B R px py w (fun t v _ => v = refV L t) (Y.take ks ts)) :=
  (ref_any L B R px py ts ks _ _ (w.heap.size + 1) _ (hr.alloc _) (litI w ks) (by simp) hn).mono fun _ _ h => h.since (only_alloc (World.grownBy.refl _ _) _)

/-- The same, the block named by its number. -/
theorem is_at (L : List Int) (B R px py : Nat) (ts : List Tok) (ks : List Int) (hn : ks.length ≤ 1000) (w : World) (n m : Nat) (hm : m = ks.length) (hw : n = w.heap.size) (hr : Rdr L B R px py w ts) :
    Calls Tryz.prog 81 #[.pointer (some ⟨R, 0, none⟩), .slice (some ⟨n, 0, none⟩) m m] (w.alloc (cellsI ks)) fun e w' => e = .returned (.bool (Y.is ks ts)) ∧ w.grownBy w' .none := by
  subst hm hw; exact is_lit L B R px py ts ks w hr hn
theorem take_at (L : List Int) (B R px py : Nat) (ts : List Tok) (ks : List Int) (hn : ks.length ≤ 1000) (w : World) (n m : Nat) (hm : m = ks.length) (hw : n = w.heap.size) (hr : Rdr L B R px py w ts) :
    Calls Tryz.prog 83 #[.pointer (some ⟨R, 0, none⟩), .slice (some ⟨n, 0, none⟩) m m] (w.alloc (cellsI ks)) (Does L B R px py w (fun t v _ => v = tokV L t) (Y.take ks ts)) := by
  subst hm hw; exact take_lit L B R px py ts ks w hr hn
theorem ref_at (L : List Int) (B R px py : Nat) (ts : List Tok) (ks : List Int) (hn : ks.length ≤ 1000) (w : World) (n m : Nat) (hm : m = ks.length) (hw : n = w.heap.size) (hr : Rdr L B R px py w ts) :
    Calls Tryz.prog 101 #[.pointer (some ⟨R, 0, none⟩), .slice (some ⟨n, 0, none⟩) m m] (w.alloc (cellsI ks)) (Does L B R px py w (fun t v _ => v = refV L t) (Y.take ks ts)) := by
  subst hm hw; exact ref_lit L B R px py ts ks w hr hn
/-- What refs answers. -/
def RefsAns (L : List Int) (B R px py : Nat) (ts : List Tok) (w : World) (e : Ending) (w' : World) : Prop :=
  w.grownBy w' (some R) ∧ ∃ v, e = .returned v ∧ OwnR L w' w.heap.size v (ts.takeWhile Y.isRef) ∧ Rdr L B R px py w' (ts.dropWhile Y.isRef)

set_option maxHeartbeats 2000000 in
theorem refs_any (L : List Int) (B R px py : Nat) (ts : List Tok) (w : World) (hr : Rdr L B R px py w ts) :
    Calls Tryz.prog 102 #[.pointer (some ⟨R, 0, none⟩)] w (RefsAns L B R px py ts w) := by
  have HR := hide hr
  have hRlt := hr.lt
  have hts : ts.length ≤ 4000 := by obtain ⟨_, _, _, _, h, _⟩ := hr; exact h
  clear hr
  go_enter Tryz.func102, Tryz.ntmps102
  go_wp2
  go_loopw [3] (fun v wr => ∃ (acc rest : List Tok), OwnR L wr w.heap.size v acc ∧ Rdr L B R px py wr rest ∧ w.grownBy wr (some R) ∧ acc.length + rest.length = ts.length ∧ acc ++ rest.takeWhile Y.isRef = ts.takeWhile Y.isRef ∧ rest.dropWhile Y.isRef = ts.dropWhile Y.isRef) (fun v _ => 4001 - slLen v)
  case atStart => exact ⟨[], ts, OwnR.nil _ _ _, HR.out, World.grownBy.refl _ _, by simp, rfl, rfl⟩
  case round =>
    clear HR
    obtain ⟨acc, rest, ho, hr, hg, hlen, htk, hdp⟩ := hrel
    have HO := hide ho
    have HR := hide hr
    have HG := hide hg
    have HL := hide hlen
    have HTK := hide htk
    have HDP := hide hdp
    obtain ⟨A, c, rfl, hc1, hc2⟩ := ho.rd
    have HIS := hide (is_lit L B R px py rest [1, 2] wr hr (by decide))
    clear ho hr hg hlen htk hdp hc1 hc2
    rcases hb : Y.is [1, 2] rest with _ | _
    · rw [hb] at HIS
      have HB := hide hb
      clear hb
      go_wp2_with fail
      refine HIS.out.mono ?_; rintro _ w2 ⟨rfl, hg2⟩
      have HG2 := hide hg2
      clear hg2
      go_wp2
      go_ret
      obtain ⟨e1, e2⟩ := Y.refs_end HB.out
      rw [e1, List.append_nil] at HTK
      rw [e2] at HDP
      refine ⟨HG.out.trans (HG2.out.row _), _, rfl, ?_, ?_⟩
      · rw [← HTK.out]; exact HO.out.grown HG2.out (Other.none _)
      · rw [← HDP.out]; exact HR.out.grown HG2.out (fun _ e => by cases e)
    · rw [hb] at HIS
      obtain ⟨t, r, rfl, htake, hk⟩ := Y.is_true hb
      have HRF := hide (fun w1 (h1 : wr.grownBy w1 .none) => ref_lit L B R px py (t :: r) [1, 2] w1 (HR.out.grown h1 (fun _ e => by cases e)) (by decide))
      rw [htake] at HRF
      have HK : Hid (Y.isRef t = true) := hide hk
      clear hb htake hk
      unfold refV at HRF
      go_wp2_with fail
      refine HIS.out.mono ?_; rintro _ w2 ⟨rfl, hg2⟩
      have HG2 := hide hg2
      clear hg2
      go_wp2_with fail
      refine (HRF.out _ HG2.out).mono ?_; rintro _ w3 ⟨hg3, v, rfl, hrd, rfl⟩
      have HG3 := hide hg3
      have HRD := hide hrd
      have HO3 := hide ((HO.out.grown HG2.out (Other.none _)).grown hg3 (HR.out.grown HG2.out (fun _ e => by cases e)).other)
      clear hg3 hrd
      have HCE := hide (ref_cells L w3 t)
      have HS0 : Hid (w.heap.size ≤ w3.heap.size) := hide (by have h1 := HG.out.size; have h2 := HG2.out.size; have h3 := HG3.out.size; omega)
      have HAC : Hid (acc.length ≤ 4000) := hide (by have := HL.out; simp at this; omega)
      go_wp2_with (at_builtin; refine apR_arm rfl (.tmp 7) (.tmp 11) _ rfl Tryz.underlying97 L w.heap.size _ acc rfl (HO3.out.alloc _) w3.heap.size 1 t rfl HCE.out (by have := HAC.out; omega) (by have := HS0.out; simp; omega) ?_; intro v4 w4 ho4 hg4)
      have HG4 := hide (grown_own (only_alloc ((HG.out.trans (HG2.out.row _)).trans HG3.out) _) (HO3.out.alloc _) hg4)
      have HRD4 := hide ((HRD.out.alloc _).own (HO3.out.alloc _) hg4 hRlt)
      have HO4 := hide ho4
      clear ho4 hg4
      go_roundw
      case rel =>
        refine ⟨acc ++ [t], r, HO4.out, HRD4.out, HG4.out, ?_, ?_, ?_⟩
        · have := HL.out; simp at this ⊢; omega
        · rw [← HTK.out, List.takeWhile_cons, HK.out]; simp
        · rw [← HDP.out, List.dropWhile_cons, HK.out]; rfl
      case measure =>
        obtain ⟨A4, c4, rfl, _, _⟩ := HO4.out.rd
        have := HAC.out
        simp [slLen]; omega
end Go.Proofs.YtoehbkgdodogkaaGreat
