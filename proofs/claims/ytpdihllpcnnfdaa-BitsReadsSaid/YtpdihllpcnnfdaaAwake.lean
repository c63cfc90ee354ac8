/- Chapter 1's example: awake returns true and leaves what was there as it was. No condition. -/
import Derived.Test.YtpdihllpcnnfdaaIn
import Derived.Test.YtpdihllpcnnfdaaNew
set_option linter.unusedSimpArgs false
set_option linter.unusedVariables false
namespace Go.Proofs.Ytpdihllpcnnfdaa
open Go.RowKit Ost

/-- Bytes as a string. -/
def str (cs : List Nat) : ByteArray := ⟨(cs.map fun (c : Nat) => UInt8.ofNat c).toArray⟩

theorem run_str (w : World) (A : Option Addr) (n c : Nat) (cs : List Nat) (hn : cs.length = n) (hs : Sees w A (u8s cs)) : (convert 22 9 (.slice A n c)).run Try.prog w = .ok (.string (str cs)) w := by
  rcases A with _ | a
  · have hnil := hs.none_nil
    obtain rfl : cs = [] := by simpa [u8s] using hnil
    exact run_convert_bytes_nil w 22 5 Try.underlying22 Try.underlying5 _ _ 9 Try.underlying9
  · rcases hs with hs | ⟨b, o, he, hc⟩
    · obtain rfl : cs = [] := by simpa [u8s] using hs
      simp at hn; subst hn
      rw [run_convert_bytes_string w 22 9 5 _ _ _ Try.underlying22 Try.underlying5 Try.underlying9, run_bytesToString w a 0 c [] (by simp [loadCells, loadCellsFrom])]
      rfl
    · injection he with he
      subst he
      have := run_convert_bytes_arg (P := Try.prog) w 22 5 Try.underlying22 Try.underlying5 b o n c (cs.map fun (c : Nat) => (c : Int)) (by simpa using hn) (by
        intro i hi
        have := hc i (.int .u8 ((cs.getD i 0 : Nat) : Int)) (u8s_get (by omega))
        rw [this]; simp [List.getD, show i < cs.length by omega]) 9 Try.underlying9
      rw [this]
      simp [strOfNums, str]

theorem str_inj {cs ds : List Nat} (hc : ∀ c ∈ cs, c < 256) (hd : ∀ c ∈ ds, c < 256) (h : str cs = str ds) : cs = ds := by
  have h' : cs.map (fun (c : Nat) => UInt8.ofNat c) = ds.map (fun (c : Nat) => UInt8.ofNat c) := by
    have := congrArg (fun b : ByteArray => b.data.toList) h
    simpa [str] using this
  apply List.ext_getElem (by simpa using congrArg List.length h')
  intro i h1 h2
  have h3 : (cs.map (fun (c : Nat) => UInt8.ofNat c))[i]? = (ds.map (fun (c : Nat) => UInt8.ofNat c))[i]? := by rw [h']
  simp [h1, h2] at h3
  have := congrArg UInt8.toNat h3
  simpa [Nat.mod_eq_of_lt (hc _ (List.getElem_mem h1)), Nat.mod_eq_of_lt (hd _ (List.getElem_mem h2))] using this

theorem packs_mk {cs : List Nat} {l : List Bool} (h1 : ∀ c ∈ cs, c < 256) (h2 : cs.length = (l.length + 7) / 8) (h3 : ∀ i, i < 8 * cs.length → bitOf cs i = l.getD i false) : Packs cs l := by
  refine ⟨h1, h2, fun i => ?_⟩
  by_cases hi : i < 8 * cs.length
  · exact h3 i hi
  · rw [bitOf_out (by omega), List.getD_eq_getElem?_getD, List.getElem?_eq_none (by omega)]; rfl

theorem example_packs : Packs [69, 32] ([] ++ nums 4 [4, 5] ++ nums 3 [1]) :=
  packs_mk (by decide) (by decide) (by decide)

theorem span_nil : span (joined []) 0 (8 * (joined []).length) = [] := rfl

theorem example_val1 : val (span [69, 32] 0 8) = 69 := by decide
theorem example_val2 : val (span [69, 32] 8 3) = 1 := by decide

set_option maxHeartbeats 1000000 in
theorem awake_any (w : World) : Calls Try.prog 15 #[] w fun e w' => e = .returned (.bool true) ∧ Only (fun _ => False) w w' := by
  go_enter Try.func15, Try.ntmps15
  go_wp2_with (fail)
  refine (new_any [] none 0 0 w rfl (by omega) (Sees.nil _ _) (by simp)).mono ?_
  rintro e w1 ⟨bo, sv, rfl, hout1, honly1⟩
  rw [span_nil] at hout1
  have hbs := hout1.1
  go_wp2_with (fail)
  refine (outBits_own w.heap.size bo 4 2 2 _ sv [] [4, 5] _ (hout1.alloc _) (by omega) (by omega) rfl (by omega) (by simp) (Sees.one (Has.new _ _ _)) ?_ (by decide)).mono ?_
  · intro k hk
    have := hout1.blk
    simp [blockOf] at hk
    exact ⟨by omega, fun h => by have := this.2 k h; omega⟩
  rintro e w2 ⟨rfl, sv2, hout2, hto2⟩
  have honly2 : Only (fun _ => False) w w2 := OutTo.old (honly1.alloc _) (hout1.alloc _) (Nat.le_refl _) hto2
  clear honly1 hout1 hto2
  go_wp2_with (fail)
  refine (outBits_own w.heap.size bo 3 1 1 _ sv2 _ [1] _ (hout2.alloc _) (by omega) (by omega) rfl (by omega) (by decide) (Sees.one (Has.new _ _ _)) ?_ (by decide)).mono ?_
  · intro k hk
    have := hout2.blk
    simp [blockOf] at hk
    exact ⟨by omega, fun h => by have := this.2 k h; omega⟩
  rintro e w3 ⟨rfl, sv3, hout3, hto3⟩
  have honly3 : Only (fun _ => False) w w3 := OutTo.old (honly2.alloc _) (hout2.alloc _) (Nat.le_refl _) hto3
  clear honly2 hout2 hto3
  go_wp2_with (fail)
  refine (done_own _ bo sv3 _ _ hout3).mono ?_
  rintro e w4 ⟨A4, c4, cs, hp4, rfl, hown4, honly4⟩
  obtain rfl : cs = [69, 32] := hp4.eq example_packs
  have hout4 := hout3.only honly4 (fun e => e) (fun _ _ e => e)
  have honly4' : Only (fun _ => False) w w4 := honly3.trans honly4 (fun _ _ e => e)
  clear hout3 honly3 honly4
  go_wp2_with (fail)
  refine (of_any A4 2 c4 [69, 32] _ (Sees.of_own hown4) rfl (by rintro rfl; exact (own_nil_cap hown4).2) (by omega) (by decide)).mono ?_
  rintro e w5 ⟨bi, sv5, rfl, hin5, honly5⟩
  have hout5 := hout4.only honly5 (fun e => e) (fun _ _ e => e)
  have honly5' : Only (fun _ => False) w w5 := honly4'.trans honly5 (fun _ _ e => e)
  have hb5 : w.heap.size ≤ w4.heap.size := honly4'.size
  clear hout4 honly4' honly5 hown4 hp4
  go_wp2_with (fail)
  refine (len_own _ bo sv3 _ _ hout5).mono ?_
  rintro e w6 ⟨rfl, rfl⟩
  have hl1 : (nums 4 [4, 5]).length = 8 := rfl
  have hl2 : (nums 3 [1]).length = 3 := rfl
  go_wp2_with (fail)
  clear hl1 hl2
  refine (done_own _ bo sv3 _ _ hout5).mono ?_
  rintro e w6 ⟨A6, c6, cs, hp6, rfl, hown6, honly6⟩
  obtain rfl : cs = [69, 32] := hp6.eq example_packs
  have hin6 := hin5.only honly6 (fun e => e) (fun _ _ e => e)
  have honly6' : Only (fun _ => False) w w6 := honly5'.trans honly6 (fun _ _ e => e)
  have hstr := run_str w6 A6 2 c6 [69, 32] rfl (Sees.of_own hown6)
  have hl : (str [69, 32]).toList = [69, 32] := by decide +kernel
  clear hp6 hown6 honly6 hout5 hin5 honly5'
  go_wp2_with (fail)
  clear hstr hl
  refine (inBits_yes _ bi 8 sv5 [69, 32] 0 w6 hin6 (by omega) (by omega) (by decide)).mono ?_
  rw [example_val1]
  rintro e w7 ⟨rfl, hin7, honly7⟩
  have honly7' : Only (fun _ => False) w w7 := IsIn.old honly6' hin6 hb5 honly7
  clear honly6' hin6 honly7
  go_wp2_with (fail)
  refine (inBits_yes _ bi 3 sv5 [69, 32] 8 w7 hin7 (by omega) (by omega) (by decide)).mono ?_
  rw [example_val2]
  rintro e w8 ⟨rfl, hin8, honly8⟩
  have honly8' : Only (fun _ => False) w w8 := IsIn.old honly7' hin7 hb5 honly8
  clear honly7' hin7 honly8
  go_wp2_with (fail)
  refine (left_any _ bi sv5 [69, 32] 11 0 w8 hin8).mono ?_
  rw [if_pos rfl]
  rintro e w9 ⟨rfl, d, rfl⟩
  go_wp2
  go_ret
  exact ⟨rfl, honly8'.drewN d⟩
end Go.Proofs.Ytpdihllpcnnfdaa
