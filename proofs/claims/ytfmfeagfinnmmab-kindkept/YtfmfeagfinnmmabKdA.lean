/- CONTRACTS OF PACKAGE kind: Kind, Int, Text, Flag, Date. (By genask.py.) -/
import Derived.Test.YtfmfeagfinnmmabKdF
import Derived.Test.YtfmfeagfinnmmabAsks
set_option linter.unusedVariables false
namespace Go.Proofs.Ytfmfeagfinnmmab
open Go.RowKit
open Vl (T)
open Mem Tg

theorem kind_any {A : Nat → Prop} (t : Th) (v : Value) (w0 w : World) (hw : Below w0.heap.size w0 w) (h : Is A w t v) :
    Calls Try.prog 19 #[tv v] w fun e w' => e = .returned (.int .i64 t.kind) ∧ Below w0.heap.size w0 w' := by
  have HW := Lib.hid hw
  clear hw
  unfold tv
  cases h with
  | nothing =>
    have a_number := ask_nil_number
    have a_text := ask_nil_text
    have a_flag := ask_nil_flag
    have a_day := ask_nil_day
    have a_list := ask_nil_list
    go_enter Try.func19, Try.ntmps19
    go_wp2_with fail
    go_ret
    exact ⟨rfl, below_box HW.out _⟩
  | @num n h =>
    have a_number := ask_number_number
    have a_text := ask_number_text
    have a_flag := ask_number_flag
    have a_day := ask_number_day
    have a_list := ask_number_list
    go_enter Try.func19, Try.ntmps19
    go_wp2_with fail
    go_ret
    exact ⟨rfl, below_box HW.out _⟩
  | @text s h =>
    have a_number := ask_text_number
    have a_text := ask_text_text
    have a_flag := ask_text_flag
    have a_day := ask_text_day
    have a_list := ask_text_list
    go_enter Try.func19, Try.ntmps19
    go_wp2_with fail
    go_ret
    exact ⟨rfl, below_box HW.out _⟩
  | @flag b =>
    have a_number := ask_flag_number
    have a_text := ask_flag_text
    have a_flag := ask_flag_flag
    have a_day := ask_flag_day
    have a_list := ask_flag_list
    go_enter Try.func19, Try.ntmps19
    go_wp2_with fail
    go_ret
    exact ⟨rfl, below_box HW.out _⟩
  | @day y m d h1 h2 h3 =>
    have a_number := ask_day_number
    have a_text := ask_day_text
    have a_flag := ask_day_flag
    have a_day := ask_day_day
    have a_list := ask_day_list
    go_enter Try.func19, Try.ntmps19
    go_wp2_with fail
    go_ret
    exact ⟨rfl, below_box HW.out _⟩
  | @list ts vs ao n cap h1 h2 h3 h4 h5 h6 h7 h8 =>
    have a_number := ask_list_number
    have a_text := ask_list_text
    have a_flag := ask_list_flag
    have a_day := ask_list_day
    have a_list := ask_list_list
    go_enter Try.func19, Try.ntmps19
    go_wp2_with fail
    go_ret
    exact ⟨rfl, below_box HW.out _⟩
/-- what Int answers -/
def asInt : Th → Ending
  | .num n => .returned (.tuple #[.int .i64 n, .bool true])
  | _ => .returned (.tuple #[.int .i64 0, .bool false])
theorem kind_int {A : Nat → Prop} (t : Th) (v : Value) (w0 w : World) (hw : Below w0.heap.size w0 w) (h : Is A w t v) :
    Calls Try.prog 15 #[tv v] w fun e w' => e = asInt t ∧ Below w0.heap.size w0 w' := by
  have HW := Lib.hid hw
  clear hw
  unfold tv
  cases h with
  | nothing =>
    have a_number := ask_nil_number
    go_enter Try.func15, Try.ntmps15
    go_wp2_with fail
    go_ret2
    exact ⟨rfl, below_box HW.out _⟩
  | @num n h =>
    have a_number := ask_number_number
    go_enter Try.func15, Try.ntmps15
    go_wp2_with fail
    go_ret2
    exact ⟨rfl, below_box HW.out _⟩
  | @text s h =>
    have a_number := ask_text_number
    go_enter Try.func15, Try.ntmps15
    go_wp2_with fail
    go_ret2
    exact ⟨rfl, below_box HW.out _⟩
  | @flag b =>
    have a_number := ask_flag_number
    go_enter Try.func15, Try.ntmps15
    go_wp2_with fail
    go_ret2
    exact ⟨rfl, below_box HW.out _⟩
  | @day y m d h1 h2 h3 =>
    have a_number := ask_day_number
    go_enter Try.func15, Try.ntmps15
    go_wp2_with fail
    go_ret2
    exact ⟨rfl, below_box HW.out _⟩
  | @list ts vs ao n cap h1 h2 h3 h4 h5 h6 h7 h8 =>
    have a_number := ask_list_number
    go_enter Try.func15, Try.ntmps15
    go_wp2_with fail
    go_ret2
    exact ⟨rfl, below_box HW.out _⟩
/-- what Text answers -/
def asText : Th → Ending
  | .text s => .returned (.tuple #[.string s, .bool true])
  | _ => .returned (.tuple #[.string .empty, .bool false])
/-- what Flag answers -/
def asFlag : Th → Ending
  | .flag b => .returned (.tuple #[.bool b, .bool true])
  | _ => .returned (.tuple #[.bool false, .bool false])
/-- what Date answers -/
def asDate : Th → Ending
  | .day y m d => .returned (.tuple #[.agg #[.int .i64 y, .int .i64 m, .int .i64 d], .bool true])
  | _ => .returned (.tuple #[.agg #[.int .i64 0, .int .i64 0, .int .i64 0], .bool false])
end Go.Proofs.Ytfmfeagfinnmmab
