/- TYPE ASSERTIONS of package kind, one equation each. (By genask.py.) -/
import Derived.Test.YtfmfeagfinnmmabThK
namespace Go.Proofs.Ytfmfeagfinnmmab

theorem ask_nil_number (u : World) : (Instr.typeAssert Value.nilIface 24 64 true).run Try.prog u = .ok (.tuple #[.int .i64 0, .bool false]) u := by kernel_rfl
theorem ask_nil_text (u : World) : (Instr.typeAssert Value.nilIface 24 60 true).run Try.prog u = .ok (.tuple #[.string .empty, .bool false]) u := by kernel_rfl
theorem ask_nil_flag (u : World) : (Instr.typeAssert Value.nilIface 24 67 true).run Try.prog u = .ok (.tuple #[.bool false, .bool false]) u := by kernel_rfl
theorem ask_nil_day (u : World) : (Instr.typeAssert Value.nilIface 24 68 true).run Try.prog u = .ok (.tuple #[.agg #[.int .i64 0, .int .i64 0, .int .i64 0], .bool false]) u := by kernel_rfl
theorem ask_nil_list (u : World) : (Instr.typeAssert Value.nilIface 24 57 true).run Try.prog u = .ok (.tuple #[.slice none 0 0, .bool false]) u := by kernel_rfl
theorem ask_number_number (x : Value) (u : World) : (Instr.typeAssert (.iface 64 x) 24 64 true).run Try.prog u = .ok (.tuple #[x, .bool true]) u := by kernel_rfl
theorem ask_number_text (x : Value) (u : World) : (Instr.typeAssert (.iface 64 x) 24 60 true).run Try.prog u = .ok (.tuple #[.string .empty, .bool false]) u := by kernel_rfl
theorem ask_number_flag (x : Value) (u : World) : (Instr.typeAssert (.iface 64 x) 24 67 true).run Try.prog u = .ok (.tuple #[.bool false, .bool false]) u := by kernel_rfl
theorem ask_number_day (x : Value) (u : World) : (Instr.typeAssert (.iface 64 x) 24 68 true).run Try.prog u = .ok (.tuple #[.agg #[.int .i64 0, .int .i64 0, .int .i64 0], .bool false]) u := by kernel_rfl
theorem ask_number_list (x : Value) (u : World) : (Instr.typeAssert (.iface 64 x) 24 57 true).run Try.prog u = .ok (.tuple #[.slice none 0 0, .bool false]) u := by kernel_rfl
theorem ask_text_number (x : Value) (u : World) : (Instr.typeAssert (.iface 60 x) 24 64 true).run Try.prog u = .ok (.tuple #[.int .i64 0, .bool false]) u := by kernel_rfl
theorem ask_text_text (x : Value) (u : World) : (Instr.typeAssert (.iface 60 x) 24 60 true).run Try.prog u = .ok (.tuple #[x, .bool true]) u := by kernel_rfl
theorem ask_text_flag (x : Value) (u : World) : (Instr.typeAssert (.iface 60 x) 24 67 true).run Try.prog u = .ok (.tuple #[.bool false, .bool false]) u := by kernel_rfl
theorem ask_text_day (x : Value) (u : World) : (Instr.typeAssert (.iface 60 x) 24 68 true).run Try.prog u = .ok (.tuple #[.agg #[.int .i64 0, .int .i64 0, .int .i64 0], .bool false]) u := by kernel_rfl
theorem ask_text_list (x : Value) (u : World) : (Instr.typeAssert (.iface 60 x) 24 57 true).run Try.prog u = .ok (.tuple #[.slice none 0 0, .bool false]) u := by kernel_rfl
theorem ask_flag_number (x : Value) (u : World) : (Instr.typeAssert (.iface 67 x) 24 64 true).run Try.prog u = .ok (.tuple #[.int .i64 0, .bool false]) u := by kernel_rfl
theorem ask_flag_text (x : Value) (u : World) : (Instr.typeAssert (.iface 67 x) 24 60 true).run Try.prog u = .ok (.tuple #[.string .empty, .bool false]) u := by kernel_rfl
theorem ask_flag_flag (x : Value) (u : World) : (Instr.typeAssert (.iface 67 x) 24 67 true).run Try.prog u = .ok (.tuple #[x, .bool true]) u := by kernel_rfl
theorem ask_flag_day (x : Value) (u : World) : (Instr.typeAssert (.iface 67 x) 24 68 true).run Try.prog u = .ok (.tuple #[.agg #[.int .i64 0, .int .i64 0, .int .i64 0], .bool false]) u := by kernel_rfl
theorem ask_flag_list (x : Value) (u : World) : (Instr.typeAssert (.iface 67 x) 24 57 true).run Try.prog u = .ok (.tuple #[.slice none 0 0, .bool false]) u := by kernel_rfl
theorem ask_day_number (x : Value) (u : World) : (Instr.typeAssert (.iface 68 x) 24 64 true).run Try.prog u = .ok (.tuple #[.int .i64 0, .bool false]) u := by kernel_rfl
theorem ask_day_text (x : Value) (u : World) : (Instr.typeAssert (.iface 68 x) 24 60 true).run Try.prog u = .ok (.tuple #[.string .empty, .bool false]) u := by kernel_rfl
theorem ask_day_flag (x : Value) (u : World) : (Instr.typeAssert (.iface 68 x) 24 67 true).run Try.prog u = .ok (.tuple #[.bool false, .bool false]) u := by kernel_rfl
theorem ask_day_day (x : Value) (u : World) : (Instr.typeAssert (.iface 68 x) 24 68 true).run Try.prog u = .ok (.tuple #[x, .bool true]) u := by kernel_rfl
theorem ask_day_list (x : Value) (u : World) : (Instr.typeAssert (.iface 68 x) 24 57 true).run Try.prog u = .ok (.tuple #[.slice none 0 0, .bool false]) u := by kernel_rfl
theorem ask_list_number (x : Value) (u : World) : (Instr.typeAssert (.iface 57 x) 24 64 true).run Try.prog u = .ok (.tuple #[.int .i64 0, .bool false]) u := by kernel_rfl
theorem ask_list_text (x : Value) (u : World) : (Instr.typeAssert (.iface 57 x) 24 60 true).run Try.prog u = .ok (.tuple #[.string .empty, .bool false]) u := by kernel_rfl
theorem ask_list_flag (x : Value) (u : World) : (Instr.typeAssert (.iface 57 x) 24 67 true).run Try.prog u = .ok (.tuple #[.bool false, .bool false]) u := by kernel_rfl
theorem ask_list_day (x : Value) (u : World) : (Instr.typeAssert (.iface 57 x) 24 68 true).run Try.prog u = .ok (.tuple #[.agg #[.int .i64 0, .int .i64 0, .int .i64 0], .bool false]) u := by kernel_rfl
theorem ask_list_list (x : Value) (u : World) : (Instr.typeAssert (.iface 57 x) 24 57 true).run Try.prog u = .ok (.tuple #[x, .bool true]) u := by kernel_rfl
theorem must_number (x : Value) (u : World) : (Instr.typeAssert (.iface 64 x) 24 64 false).run Try.prog u = .ok x u := by kernel_rfl
theorem must_text (x : Value) (u : World) : (Instr.typeAssert (.iface 60 x) 24 60 false).run Try.prog u = .ok x u := by kernel_rfl
theorem must_day (x : Value) (u : World) : (Instr.typeAssert (.iface 68 x) 24 68 false).run Try.prog u = .ok x u := by kernel_rfl
end Go.Proofs.Ytfmfeagfinnmmab
